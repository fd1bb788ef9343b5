/- Orders, plain: a text is read again; what is read may be. (Written ahead of the code.) -/
import Derived.Test.YtekcjfdllclphaaGreatDoorMQbOrM
import Derived.Test.YtekcjfdllclphaaGreatDoorMQbSlC
set_option linter.unusedVariables false
set_option linter.unusedSimpArgs false
section
namespace Go.Proofs.YtekcjfdllclphaaGreatDoor.od
open Go.Proofs.YtekcjfdllclphaaGreatDoor.un
open Go.Proofs.YtekcjfdllclphaaGreatDoor.di
open Go.Proofs.YtekcjfdllclphaaGreatDoor.sp
open Go.Lib (decDigits)
theorem some_bind {α β:Type} (a:α) (f:α→Option β):((some a:Option α) >>= f)=f a:=rfl
theorem fold_one (k:Nat) (o:Ord) (f:Fl):[f].foldlM (ostep k) o=ostep k o f:=by
 rw [List.foldlM_cons]
 cases ostep k o f <;> rfl
theorem fold_fs {o:Ord} (h:OkO o) (h2:o.kind≠2):(fsO o).foldlM (ostep o.kind) (Ord.at o.kind)=some o:=by
  have hk:=eighteen h.kind
  obtain ⟨k,job,n,name,pool,user,size,yes,slip⟩:=o
  obtain ⟨_,_,e1,e2,e3,e4,e5,e6,e7,e8,e9,e10,e11,e12⟩:=h
  dsimp only at *
  have e1:=e1 h2
  subst e1
  rcases hk with rfl | rfl | rfl | rfl | rfl | rfl | rfl | rfl | rfl | rfl | rfl | rfl | rfl | rfl | rfl | rfl | rfl | rfl
  all_goals first
    | exact absurd rfl h2
    | (have a0:=e3 rfl;have b0:=e4 rfl;have c0:=e7 rfl;have d0:=e9 rfl;have f0:=e11 (by decide);have g0:=e12 (by decide) (by decide)
       obtain ⟨c0,c1⟩:=c0
       subst a0 c0 c1 d0 f0 g0
       exact (fold_one _ _ _).trans (ostep_job _ _ b0.1 b0.2))
    | (have a0:=e2 rfl;have b0:=e5 rfl;have c0:=e7 rfl;have d0:=e9 rfl;have f0:=e11 (by decide);have g0:=e12 (by decide) (by decide)
       obtain ⟨c0,c1⟩:=c0
       subst b0 c0 c1 d0 f0 g0
       exact (fold_one _ _ _).trans (ostep_n _ _ a0.1 a0.2))
    | (have a0:=e3 rfl;have b0:=e5 rfl;have c0:=e7 rfl;have d0:=e8 rfl;have f0:=e11 (by decide);have g0:=e12 (by decide) (by decide)
       obtain ⟨c0,c1⟩:=c0
       subst a0 b0 c0 c1 f0 g0
       exact (fold_one _ _ _).trans (ostep_pool _ _ d0))
    | (have a0:=e2 rfl;have b0:=e4 rfl;have c0:=e7 rfl;have d0:=e9 rfl;have f0:=e11 (by decide);have g0:=e12 (by decide) (by decide)
       obtain ⟨c0,c1⟩:=c0
       subst c0 c1 d0 f0 g0
       show [(jobW,txt job),(nK,txt n)].foldlM (ostep 6) _=_
       rw [List.foldlM_cons,ostep_job _ _ b0.1 b0.2]
       exact (fold_one _ _ _).trans (ostep_n _ _ a0.1 a0.2))
    | (have a0:=e3 rfl;have b0:=e4 rfl;have c0:=e7 rfl;have d0:=e9 rfl;have f0:=e11 (by decide)
       obtain ⟨c0,c1⟩:=c0
       subst a0 c0 c1 d0 f0
       show [(jobW,txt job),(resK,if yes then okW else badW)].foldlM (ostep 7) _=_
       rw [List.foldlM_cons,ostep_job _ _ b0.1 b0.2]
       exact (fold_one _ _ _).trans (ostep_res _ _ _))
    | (have a0:=e3 rfl;have b0:=e5 rfl;have c0:=e6 rfl;have d0:=e9 rfl;have f0:=e11 (by decide);have g0:=e12 (by decide) (by decide)
       subst a0 b0 d0 f0 g0
       show [(userK,user),(nameK,name)].foldlM (ostep 16) _=_
       rw [List.foldlM_cons,ostep_user _ _ c0.2]
       exact (fold_one _ _ _).trans (ostep_name _ _ c0.1))
    | (have a0:=e3 rfl;have b0:=e5 rfl;have c0:=e6 rfl;have d0:=e8 rfl;have f0:=e10 rfl
       subst a0 b0
       obtain ⟨m,m0,m1,m2⟩:=cap_stxt f0
       show [(userK,user),(nameK,name),(capK,stxt size),(poolK,pool),(accK,if yes then pubV else priV)].foldlM (ostep 15) _=_
       rw [List.foldlM_cons,ostep_user _ _ c0.2,some_bind,List.foldlM_cons,ostep_name _ _ c0.1,some_bind,List.foldlM_cons,ostep_cap _ _ m0 m1,some_bind,List.foldlM_cons,ostep_pool _ _ d0,some_bind,fold_one,ostep_acc,m2]
       rfl)
theorem fs_plain {o:Ord} (h:OkO o) {f:Fl} (hf:f∈fsO o):plain (wtx f):=by
  have p61:plain [61]:=by unfold plain;decide
  have hk:=(fs_key hf).2
  show plain (f.1++([61]++f.2))
  refine plain_app hk (plain_app p61 ?_)
  unfold fsO at hf
  simp only [List.mem_append] at hf
  rcases hf with ((((((hf | hf) | hf) | hf) | hf) | hf) | hf) <;> split at hf <;> simp only [List.mem_cons,List.not_mem_nil,or_false] at hf
  · subst hf;exact plain_txt _
  · subst hf;exact plain_txt _
  · subst hf;cases o.yes <;> (unfold plain;decide)
  · next hu => rcases hf with rfl | rfl
               · exact plain_name (h.name1 hu).2
               · exact plain_name (h.name1 hu).1
  · subst hf;exact plain_stxt _
  · next hu=>subst hf;exact plain_name (h.pool1 hu)
  · subst hf;cases o.yes <;> (unfold plain;decide)
theorem sub_no {s w:Tx} {ws:List Tx} {k:Nat} (hc:cuts 32 s=w::ws) (hk:kindO? w=some k):subL.isPrefixOf s=false:=by
 obtain ⟨h1,h2,rfl⟩:=kindO_some hk
 have:=join_cuts 32 s
 rw [hc] at this
 cases ws with
 | nil=>rw [←this];exact (no_sub h1 []).1
 | cons a r=>rw [←this,joinC_cons 32 _ (by simp)];exact (no_sub h1 _).2
theorem oread_cuts {s w:Tx} {ws:List Tx} {k:Nat} (hc:cuts 32 s=w::ws) (hk:kindO? w=some k):oread s=match orun k (Ord.at k) (keysO k) ws with
        | some o=>(o,0,0)
        | none=>(Ord.zero,160,1):=by
  unfold oread
  rw [sub_no hc hk,if_neg (by decide),hc]
  dsimp only
  rw [hk]
  all_goals (dsimp only;cases orun k (Ord.at k) (keysO k) ws <;> rfl)
end Go.Proofs.YtekcjfdllclphaaGreatDoor.od
end
section
namespace Go.Proofs.YtekcjfdllclphaaGreatDoor.gn
open Go.RowKit
open Go.Proofs.YtekcjfdllclphaaGreatDoor.un
open Go.Proofs.YtekcjfdllclphaaGreatDoor.di
open Go.Proofs.YtekcjfdllclphaaGreatDoor.sp (Slip cuts cutB within? dep? fput frun first? userK nodesK wallK qosK afterK okW anyW jobW pput pline pread chkS Ok shortP soundP waitsP storedP apartP dirsP dropD useD capD innD outD txtS line1 dirsS sread fldB fldB_len cutB_lib cuts_len cuts_mem_len countB_cuts splitB_cuts cuts_ne)
def meth (g:FuncId) (R:Nat):Value:=.func (.func g) #[.pointer (some ⟨R,0,none⟩)] #[]
def mth (R:Nat) (j:Tx):Option Value :=
 if j=afterK then some (meth 135 R) else if j=qosK then some (meth 134 R) else if j=wallK then some (meth 133 R)
 else if j=nodesK then some (meth 132 R) else if j=userK then some (meth 131 R) else none
theorem mth_none {R:Nat} {j:Tx} (h:mth R j=none) (x:Slip) (v:Tx):fput x (j,v)=none:=by
 unfold mth at h
 by_cases h1:j=afterK
 ·rw [if_pos h1] at h;cases h
 rw [if_neg h1] at h
 by_cases h2:j=qosK
 ·rw [if_pos h2] at h;cases h
 rw [if_neg h2] at h
 by_cases h3:j=wallK
 ·rw [if_pos h3] at h;cases h
 rw [if_neg h3] at h
 by_cases h4:j=nodesK
 ·rw [if_pos h4] at h;cases h
 rw [if_neg h4] at h
 by_cases h5:j=userK
 ·rw [if_pos h5] at h;cases h
 unfold fput
 rw [if_neg h5,if_neg h4,if_neg h3,if_neg h2,if_neg h1]
theorem mth_call {j:Tx} {R:Nat} {m:Value} (h:mth R j=some m):∃ q,m=meth q R∧(∀ (x y:Value) (W:World),(callFunc q #[x,y]).run Tryz.prog W=.ok (.enter q #[x,y]) W) ∧
  ∀ (v:Tx) (hv:v.length≤20000) (W:World) (x:Slip) (line:Int) (g:Gh),Rdr W R x line g→(j=afterK→x.after=[])→LaidB R W→Calls Tryz.prog q #[.pointer (some ⟨R,0,none⟩),.string (str v)] W (StoT2 R g (fput x (j,v)) line W):=by
 unfold mth at h
 by_cases h1:j=afterK
 ·rw [if_pos h1] at h
  subst h1
  cases h
  refine ⟨_,rfl,fun x y W=>by kernel_rfl,fun v hv W x line g hr ha hL=>?_⟩
  have:=after_any hr v hv (by rw [ha rfl];exact Nat.zero_le _) hL
  have e:fput x (afterK,v)=((cuts 44 v).mapM dep?).map fun l=>{ x with after:=x.after++l }:=by
   unfold fput
   rw [if_neg (show ¬ afterK=userK by decide),if_neg (show ¬ afterK=nodesK by decide),if_neg (show ¬ afterK=wallK by decide),if_neg (show ¬ afterK=qosK by decide),if_pos rfl,ha rfl]
   rfl
  rw [e]
  exact this
 rw [if_neg h1] at h
 by_cases h2:j=qosK
 ·rw [if_pos h2] at h
  subst h2
  cases h
  exact ⟨_,rfl,fun x y W=>by kernel_rfl,fun v hv W x line g hr _ hL=>qos_any hr v (by omega) hL.here.u⟩
 rw [if_neg h2] at h
 by_cases h3:j=wallK
 ·rw [if_pos h3] at h
  subst h3
  cases h
  exact ⟨_,rfl,fun x y W=>by kernel_rfl,fun v hv W x line g hr _ hL=>wall_any hr v (by omega) hL.here.u⟩
 rw [if_neg h3] at h
 by_cases h4:j=nodesK
 ·rw [if_pos h4] at h
  subst h4
  cases h
  exact ⟨_,rfl,fun x y W=>by kernel_rfl,fun v hv W x line g hr _ hL=>nodes_any hr v (by omega) hL.here.u⟩
 rw [if_neg h4] at h
 by_cases h5:j=userK
 ·rw [if_pos h5] at h
  subst h5
  cases h
  exact ⟨_,rfl,fun x y W=>by kernel_rfl,fun v hv W x line g hr _ hL=>user_any hr v (by omega)⟩
 rw [if_neg h5] at h
 cases h
set_option maxRecDepth 100000 in
set_option maxHeartbeats 3200000 in
theorem fields_any (R:Nat) (w:World):Calls Tryz.prog 108 #[.pointer (some ⟨R,0,none⟩)] w fun e w'=>∃ L,e=.returned (.map (some w.heap.size))∧MapV w' w.heap.size L∧(∀ j,fi.get j L=mth R j)∧Below w.heap.size w w':=by
 have ht:=Tryz.underlying143
 have y0:Below w.heap.size w (w.alloc (.map #[] 0)):=(Below.refl _ _).alloc (Nat.le_refl _) _
 have m0:=MapV.new w
 have l0:([]:List (Tx × Value)).length≤0:=Nat.le_refl _
 obtain ⟨v1,L1,r1,m1,l1,q1,g1⟩:=m0.put2 l0 (k:=userK) ht (by decide) (by decide) (meth 131 R)
 obtain ⟨v2,L2,r2,m2,l2,q2,g2⟩:=m1.put2 l1 (k:=nodesK) ht (by decide) (by decide) (meth 132 R)
 obtain ⟨v3,L3,r3,m3,l3,q3,g3⟩:=m2.put2 l2 (k:=wallK) ht (by decide) (by decide) (meth 133 R)
 obtain ⟨v4,L4,r4,m4,l4,q4,g4⟩:=m3.put2 l3 (k:=qosK) ht (by decide) (by decide) (meth 134 R)
 obtain ⟨v5,L5,r5,m5,l5,q5,g5⟩:=m4.put2 l4 (k:=afterK) ht (by decide) (by decide) (meth 135 R)
 have hg:But w.heap.size (w.alloc (.map #[] 0)) v5:=(((g1.trans g2).trans g3).trans g4).trans g5
 have HB:=Lib.hid (y0.grown hg y0.size (fun j hj=>by cases hj;exact Nat.le_refl _))
 have HM:=Lib.hid m5
 have HG:=Lib.hid (show ∀ j,fi.get j L5=mth R j from fun j=>by rw [q5,q4,q3,q2,q1];rfl)
 have u1:(Instr.mapUpdate 143 (.map (some w.heap.size)) (.string { data:=#[117,115,101,114] }) (.func (.func 131) #[.pointer (some ⟨R,0,none⟩)] #[])).run Tryz.prog (w.alloc (.map #[] 0))=.ok () v1:=r1
 have u2:(Instr.mapUpdate 143 (.map (some w.heap.size)) (.string { data:=#[110,111,100,101,115] }) (.func (.func 132) #[.pointer (some ⟨R,0,none⟩)] #[])).run Tryz.prog v1=.ok () v2:=r2
 have u3:(Instr.mapUpdate 143 (.map (some w.heap.size)) (.string { data:=#[119,97,108,108] }) (.func (.func 133) #[.pointer (some ⟨R,0,none⟩)] #[])).run Tryz.prog v2=.ok () v3:=r3
 have u4:(Instr.mapUpdate 143 (.map (some w.heap.size)) (.string { data:=#[113,111,115] }) (.func (.func 134) #[.pointer (some ⟨R,0,none⟩)] #[])).run Tryz.prog v3=.ok () v4:=r4
 have u5:(Instr.mapUpdate 143 (.map (some w.heap.size)) (.string { data:=#[97,102,116,101,114] }) (.func (.func 135) #[.pointer (some ⟨R,0,none⟩)] #[])).run Tryz.prog v4=.ok () v5:=r5
 have hmm:=@run_makeMap Tryz.prog
 have hmf:∀ (fn:Fn) (first cap:Array Value) (w:World),(Instr.makeFunc fn first cap).run Tryz.prog w=.ok (.func fn first cap) w:=fun _ _ _ _=>rfl
 clear y0 m0 l0 r1 r2 r3 r4 r5 m1 m2 m3 m4 m5 l1 l2 l3 l4 l5 q1 q2 q3 q4 q5 g1 g2 g3 g4 g5 hg
 go_enter Tryz.func108,Tryz.ntmps108
 go_wp2
 go_ret
 exact ⟨_,rfl,HM.out,HG.out,HB.out⟩
theorem frun_app:∀ (a:List Tx) (s:Slip × List Tx) (b:List Tx),frun s (a++b)=match frun s a with
  | some t=>frun t b
  | none=>none
 | [],s,b=>rfl
 | w::a,s,b=>by
  have ih:=fun t=>frun_app a t b
  rw [List.cons_append,frun,frun]
  cases cut w with
  | none=>rfl
  | some f =>
   dsimp only
   split
   ·rfl
   ·cases fput s.1 f with
    | none=>rfl
    | some y=>exact ih _
theorem frun_one (s:Slip × List Tx) (w:Tx):frun s [w]=match cut w with
  | none=>none
  | some f=>if f.1∈s.2 then none else match fput s.1 f with
   | none=>none
   | some y=>some (y,s.2++[f.1]):=by
 rw [frun]
 cases cut w with
 | none=>rfl
 | some f =>
  dsimp only
  split
  ·rfl
  ·cases fput s.1 f <;> rfl
theorem frun_take {s t:Slip × List Tx} {ws:List Tx} {k:Nat} {w:Tx} (h:frun s (ws.take k)=some t) (hw:ws[k]?=some w):frun s (ws.take (k+1))=frun t [w]:=by
 rw [List.take_add_one,hw,frun_app,h]
 rfl
theorem frun_bad {s:Slip × List Tx} {ws:List Tx} {k:Nat} (h:frun s (ws.take k)=none):frun s ws=none:=by
 rw [←List.take_append_drop k ws,frun_app,h]
theorem first_bad {l j:Tx} {ws:List Tx} (hc:cuts 32 l=j::ws) (h:frun (Slip.zero,[]) ws=none):first? l=none:=by
 unfold first?
 rw [hc]
 dsimp only
 rw [h]
 split <;> rfl
theorem first_word {l j:Tx} {ws:List Tx} (hc:cuts 32 l=j::ws) (h:¬ j=jobW):first? l=none:=by
 unfold first?
 rw [hc]
 dsimp only
 rw [if_neg h]
theorem first_end {l:Tx} {ws:List Tx} {t:Slip × List Tx} (hc:cuts 32 l=jobW::ws) (h:frun (Slip.zero,[]) ws=some t):first? l=if userK∈t.2∧nodesK∈t.2∧wallK∈t.2 then some t.1 else none:=by
 unfold first?
 rw [hc]
 dsimp only
 rw [if_pos rfl,h]
set_option maxRecDepth 100000 in
theorem slice_one {w:World} {p nl:Nat} {ws:List Tx} (h:Prts w p 1 ws) (hn:nl - 1=ws.length) (h2:1≤nl) :
  ∃ o,Prts w p o ws∧∀ W,(Instr.slice 25 (.slice (some ⟨p,0,none⟩) nl nl) (some (.int .i64 1)) none none).run Tryz.prog W=.ok (.slice (some ⟨p,o,none⟩) (nl - 1) (nl - 1)) W:=by
 have hz:∀ W,(sizeOf (Tryz.prog.elem 25)).run Tryz.prog W=.ok 1 W:=fun W=>by kernel_rfl
 have hr:∀ W,(Instr.slice 25 (.slice (some ⟨p,0,none⟩) nl nl) (some (.int .i64 1)) none none).run Tryz.prog W=.ok (sliced (some ⟨p,0,none⟩) 1 nl nl 1) W:=fun W=>by
  rw [run_slice_l W 25 _ nl nl Tryz.underlying25 .i64 1 (by omega) (by omega),hz]
  rfl
 by_cases he:nl=1
 ·refine ⟨0,⟨h.1,fun i x hx=>?_⟩,fun W=>?_⟩
  ·have:ws=[]:=List.eq_nil_of_length_eq_zero (by omega)
   rw [this] at hx
   simp at hx
  ·rw [hr,sliced,if_pos he]
 ·refine ⟨1,h,fun W=>?_⟩
  rw [hr,sliced,if_neg he]
  rfl
structure JbS (w:World) (pB o mB R:Nat) (line:Int) (g:Gh) (ws:List Tx) (k:Nat) (y:Slip) (seen:List Tx) (g':Gh) (Lm:List (Tx × Value)) (W:World):Prop where
 hm:frun (Slip.zero,[]) (ws.take k)=some (y,seen)
 r:Rdr W R y line g'
 kp:Kp R g g' w W
 p:Prts W pB o ws
 np:¬ Mr R g' pB
 m:MapV W mB Lm
 get:∀ j,fi.get j Lm=if j∈seen then none else mth R j
 nm:¬ Mr R g' mB
 ne:pB≠mB
 af:afterK ∉ seen→y.after=[]
 hw:w.heap.size≤mB
 rw_:R < w.heap.size
theorem JbS.next {w:World} {pB o mB R:Nat} {line:Int} {g:Gh} {ws:List Tx} {k:Nat} {y:Slip} {seen:List Tx} {g':Gh} {Lm:List (Tx × Value)} {W W':World} (h:JbS w pB o mB R line g ws k y seen g' Lm W) (hb:Below W.heap.size W W'):JbS w pB o mB R line g ws k y seen g' Lm W' :=
 ⟨h.hm,h.r.next hb,h.kp.trans (Kp.of g' hb (Nat.le_of_lt h.r.box.lt)),h.p.next hb,h.np,h.m.next hb,h.get,h.nm,h.ne,h.af,h.hw,h.rw_⟩
theorem Rdr.but {w w':World} {R b:Nat} {x:Slip} {line:Int} {g:Gh} (h:Rdr w R x line g) (hb:But b w w') (hn:¬ Mr R g b):Rdr w' R x line g :=
 h.kept fun k hk=>hb.block k (h.lM hk).2.1 fun e=>hn (by cases e;exact hk)
theorem JbS.del {w:World} {pB o mB R:Nat} {line:Int} {g:Gh} {ws:List Tx} {k:Nat} {y:Slip} {seen:List Tx} {g':Gh} {Lm:List (Tx × Value)} {W W' W2:World} (h:JbS w pB o mB R line g ws k y seen g' Lm W) {x:Tx} (hx:ws[k]?=some x) {key v:Tx} (hc:cut x=some (key,v)) (hs:key ∉ seen) {y2:Slip} (hp:fput y (key,v)=some y2) {g2:Gh} (hr:Rdr W' R y2 line g2) (hk:Kp R g' g2 W W')
    (hm:MapV W2 mB (fi.del key Lm)) (hb:But mB W' W2):JbS w pB o mB R line g ws (k+1) y2 (seen++[key]) g2 (fi.del key Lm) W2:=by
  have hmz:mB < W.heap.size:=h.m.lt
  have hpz:=h.p.1
  have nm2:=hk.off hmz h.nm
  have np2:=hk.off hpz h.np
  have h9:=h.rw_
  have hkk:=h.kp.trans hk
  refine ⟨?_,hr.but hb nm2,⟨?_,fun b hb2 hm2=>?_,?_⟩,?_,np2,hm,fun j=>?_,nm2,h.ne,fun ha=>?_,h.hw,h.rw_⟩
  · rw [frun_take h.hm hx,frun_one,hc]
    dsimp only
    rw [if_neg hs,hp]
  · exact hkk.low.grown hb (Nat.le_of_lt hr.box.lt) (fun j e=>by cases e;have:=h.hw;omega)
  · exact (hb.block b (Nat.lt_of_lt_of_le hb2 hkk.low.size) (fun e=>by cases e;have:=h.hw;omega)).trans (hkk.same b hb2 hm2)
  · exact hkk.mv
  · have h1:Prts W' pB o ws:=h.p.kept hk.low.size (hk.same pB hpz h.np)
    exact h1.kept hb.size (hb.block pB h1.1 fun e=>h.ne (Option.some.inj e))
  · rw [get_del,h.get]
    by_cases hj:j=key
    · rw [if_pos hj,if_pos (by rw [hj];simp)]
    · rw [if_neg hj]
      have:j∈seen++[key]↔j∈seen:=by simp [hj]
      simp only [this]
  · have h1:afterK ∉ seen:=fun h2=>ha (by simp [h2])
    have h2:¬ key=afterK:=fun h2=>ha (by simp [h2])
    rw [←h.af h1]
    unfold fput at hp
    split at hp
    · cases hp;rfl
    split at hp
    · obtain ⟨n,_,rfl⟩:=Option.map_eq_some_iff.1 hp;rfl
    split at hp
    · obtain ⟨n,_,rfl⟩:=Option.map_eq_some_iff.1 hp;rfl
    split at hp
    · obtain ⟨n,_,rfl⟩:=Option.map_eq_some_iff.1 hp;rfl
    · first
      | cases hp
      | (split at hp
         · next h3=>exact absurd h3 h2
         · cases hp)
end Go.Proofs.YtekcjfdllclphaaGreatDoor.gn
end
section
namespace Go.Proofs.YtekcjfdllclphaaGreatDoor.gn
open Go.RowKit
open Go.Proofs.YtekcjfdllclphaaGreatDoor.un
open Go.Proofs.YtekcjfdllclphaaGreatDoor.di
open Go.Proofs.YtekcjfdllclphaaGreatDoor.sp (Slip shortP soundP waitsP storedP apartP dirsP dropD useD capD innD outD chkS chkS_P)
theorem sound_eq (x:Slip):soundP x=(isName x.user && ((decide (1≤x.nodes) && decide (x.nodes≤64)) && ((decide (1≤x.wall) && decide (x.wall≤1048576)) && (decide (0≤x.qos) && decide (x.qos≤9))))):=by
 unfold soundP
 rw [Bool.eq_iff_iff]
 simp
set_option maxRecDepth 100000 in
set_option maxHeartbeats 4000000 in
theorem sound_any (x:Slip) (g:Gh) (w:World) (h:SW x):Calls Tryz.prog 58 #[sV x g] w (Told (.bool (soundP x)) w):=by
 obtain ⟨va,vm,vd,vu⟩:=g
 have HP:=Lib.hid (sound_eq x)
 have HNM:=Lib.hid (fun W=>name_all x.user h.user W)
 clear h
 unfold sV scs
 dsimp only
 obtain ⟨us,nodes,wall,qos,after,cap,inn,out,pool,mk,dr,use⟩:=x
 dsimp only at HP HNM ⊢
 obtain ⟨nm,hnm⟩:∃ b,isName us=b:=⟨_,rfl⟩
 rw [hnm] at HP HNM
 clear hnm
 have HW1:=Lib.hid (fun (t:Bool) (ht:(decide (1≤nodes) && decide (nodes≤64))=t) W=>within_at ht W)
 have HW2:=Lib.hid (fun (t:Bool) (ht:(decide (1≤wall) && decide (wall≤1048576))=t) W=>within_at ht W)
 have HW3:=Lib.hid (fun (t:Bool) (ht:(decide (0≤qos) && decide (qos≤9))=t) W=>within_at ht W)
 obtain ⟨b1,hb1⟩:∃ b,(decide (1≤nodes) && decide (nodes≤64))=b:=⟨_,rfl⟩
 obtain ⟨b2,hb2⟩:∃ b,(decide (1≤wall) && decide (wall≤1048576))=b:=⟨_,rfl⟩
 obtain ⟨b3,hb3⟩:∃ b,(decide (0≤qos) && decide (qos≤9))=b:=⟨_,rfl⟩
 rw [hb1,hb2,hb3] at HP
 have H1:=Lib.hid (HW1.out b1 hb1)
 have H2:=Lib.hid (HW2.out b2 hb2)
 have H3:=Lib.hid (HW3.out b3 hb3)
 clear hb1 hb2 hb3 HW1 HW2 HW3
 generalize str pool=spl at *
 obtain ⟨w1,hw1⟩:∃ w1,w.alloc (.cells #[.string (str us),.int .i64 nodes,.int .i64 wall,.int .i64 qos,va,.int .i64 cap,.int .i64 inn,.int .i64 out,.string spl,vm,vd,vu] 27)=w1:=⟨_,rfl⟩
 have hbx:BoxA w1 w.heap.size 27 #[.string (str us),.int .i64 nodes,.int .i64 wall,.int .i64 qos,va,.int .i64 cap,.int .i64 inn,.int .i64 out,.string spl,vm,vd,vu]:=by rw [←hw1];exact BoxA.new _ _ _
 have hB1:Below w.heap.size w w1:=by rw [←hw1];exact (Below.refl _ _).alloc (Nat.le_refl _) _
 have HBX:=Lib.hid hbx
 have HB1:=Lib.hid hB1
 have H0:=Lib.hid hw1
 have c0:=hbx.cell 0 _
 have hlt:=hbx.lt
 clear hbx hB1 hw1
 go_enter Tryz.func58,Tryz.ntmps58
 go_upto_region 1 with fail
 rw [H0.out]
 cases nm with
 | false =>
  go_wp2_with (go_at_call 98;((with_reducible refine (HNM.out _).mono ?_);rintro e w2 ⟨rfl,hb⟩);have HB2:=Lib.hid hb;clear hb)
  go_ret
  exact ⟨by rw [HP.out];rfl,HB1.out.trans (HB2.out.mono HB1.out.size)⟩
 | true =>
  cases b1 with
  | false =>
   go_wp2_with (first
    | (go_at_call 98;((with_reducible refine (HNM.out _).mono ?_);rintro e w2 ⟨rfl,hb⟩);have HB2:=Lib.hid hb;have c1:=(HBX.out.next hb).cell 1 _;have hl2:=(HBX.out.next hb).lt;clear hb)
    | (go_at_call 99;first | ((with_reducible refine (H1.out _).mono ?_);rintro e w3 ⟨rfl,rfl⟩)))
   go_ret
   exact ⟨by rw [HP.out];rfl,HB1.out.trans (HB2.out.mono HB1.out.size)⟩
  | true =>
   cases b2 with
   | false =>
    go_wp2_with (first
     | (go_at_call 98;((with_reducible refine (HNM.out _).mono ?_);rintro e w2 ⟨rfl,hb⟩);have HB2:=Lib.hid hb;have c1:=(HBX.out.next hb).cell 1 _;have c2:=(HBX.out.next hb).cell 2 _;have hl2:=(HBX.out.next hb).lt;clear hb)
     | (go_at_call 99;first | ((with_reducible refine (H1.out _).mono ?_);rintro e w3 ⟨rfl,rfl⟩) | ((with_reducible refine (H2.out _).mono ?_);rintro e w3 ⟨rfl,rfl⟩)))
    go_ret
    exact ⟨by rw [HP.out];rfl,HB1.out.trans (HB2.out.mono HB1.out.size)⟩
   | true =>
    go_wp2_with (first
     | (go_at_call 98;((with_reducible refine (HNM.out _).mono ?_);rintro e w2 ⟨rfl,hb⟩);have HB2:=Lib.hid hb;have c1:=(HBX.out.next hb).cell 1 _;have c2:=(HBX.out.next hb).cell 2 _;have c3:=(HBX.out.next hb).cell 3 _;have hl2:=(HBX.out.next hb).lt;clear hb)
     | (go_at_call 99;first | ((with_reducible refine (H1.out _).mono ?_);rintro e w3 ⟨rfl,rfl⟩) | ((with_reducible refine (H2.out _).mono ?_);rintro e w3 ⟨rfl,rfl⟩) | ((with_reducible refine (H3.out _).mono ?_);rintro e w3 ⟨rfl,rfl⟩)))
    go_ret
    exact ⟨by rw [HP.out];rfl,HB1.out.trans (HB2.out.mono HB1.out.size)⟩
theorem waits_bad {l:List Dep} {k:Nat} {d:Dep} (hd:l[k]?=some d) (h:¬ (1≤d.1∧d.1≤1073741824)):waitsP l=false:=by
 unfold waitsP
 exact decide_eq_false fun h2=>h (h2.1 d (List.mem_of_getElem? hd))
set_option maxRecDepth 100000 in
set_option maxHeartbeats 8000000 in
theorem waits_any (l:List Dep) (v:Value) (w:World) (h:RdC w v l.length (flA l)) (hn:l.length≤1000):Calls Tryz.prog 59 #[v] w (Told (.bool (waitsP l)) w):=by
 obtain ⟨p,c,rfl⟩:=h.form
 have HC:=Lib.hid h
 obtain ⟨n,hnl⟩:∃ n,l.length=n:=⟨_,rfl⟩
 rw [hnl] at hn HC ⊢
 have HN:=Lib.hid hnl
 clear h hnl
 go_enter Tryz.func59,Tryz.ntmps59
 go_wp2
 go_loopw [3,8] (fun s3 s8 W=>∃ (k:Nat) (v3:Value),s3=v3∧s8=.int .i64 k∧k≤n∧Aside (∀ d∈l.take k,1≤d.1∧d.1≤1073741824)∧Aside (W.ownsRow w.heap.size 2 1 v3 k (flI ((l.take k).map (·.1))))∧Aside (Below w.heap.size w W)) (fun _ s8 _=>n - (intOf s8).toNat)
 case atStart=>exact ⟨0,_,rfl,rfl,Nat.zero_le _,by show ∀ d∈l.take 0,_;simp,World.ownsRow_nil _ _ _ _,Below.refl _ _⟩
 case round =>
  obtain ⟨k,v3,h3,rfl,hk,hok,hown,hbl⟩:=hrel
  replace h3:=h3.symm
  subst h3
  have HO:=Lib.hid (show ∀ d∈l.take k,1≤d.1∧d.1≤1073741824 from hok)
  have HW:=Lib.hid (show wr.ownsRow w.heap.size 2 1 v3 k (flI ((l.take k).map (·.1))) from hown)
  have HB:=Lib.hid (show Below w.heap.size w wr from hbl)
  clear hok hown hbl
  by_cases hkn:k < n
  ·obtain ⟨b,off,rfl,hb,hc⟩:=(HC.out.next HB.out).at_ (size:=2) rfl (by omega)
   obtain ⟨d,hd⟩:∃ d,l[k]?=some d:=⟨_,List.getElem?_eq_getElem (by rw [HN.out];exact hkn)⟩
   have c0:wr.cell? ⟨b,off+k * 2,none⟩=some (.int .i64 d.1):=hc.elt (f:=cA) (k:=2) (fun _=>rfl) (j:=0) hd (by decide) rfl
   have c1:wr.cell? ⟨b,off+k * 2+1,none⟩=some (.bool d.2):=by
    have:=hc.elt (f:=cA) (k:=2) (fun _=>rfl) (j:=1) hd (by decide) rfl
    rwa [←Nat.add_assoc] at this
   have HD:=Lib.hid hd
   clear hc hd
   obtain ⟨dn,db⟩:=d
   dsimp only at c0 c1
   obtain ⟨t,ht⟩:∃ t,(decide (1≤dn) && decide (dn≤1073741824))=t:=⟨_,rfl⟩
   have H1:=Lib.hid (fun W=>within_at ht W)
   have HT:=Lib.hid (show (1≤dn∧dn≤1073741824)↔t=true by rw [←ht];simp)
   clear ht
   go_upto_region 5 with fail
   have hbd:BoxA (wr.alloc (.cells #[.int .i64 dn,.bool db] 88)) wr.heap.size 88 #[.int .i64 dn,.bool db]:=BoxA.new _ _ _
   have hb4:Below wr.heap.size wr (wr.alloc (.cells #[.int .i64 dn,.bool db] 88)):=(Below.refl _ _).alloc (Nat.le_refl _) _
   generalize wr.alloc (.cells #[.int .i64 dn,.bool db] 88)=w4 at *
   have y0:=hbd.cell 0 _
   have y1:=hbd.cell 1 _
   have ylt:=hbd.lt
   have HW4:=Lib.hid (show w4.ownsRow w.heap.size 2 1 v3 k (flI ((l.take k).map (·.1))) from World.ownsRow.kept HW.out (grown_new hb4) (by cases hv:v3.ownBlock <;> simp))
   have HB4:=Lib.hid (HB.out.trans (hb4.mono HB.out.size))
   generalize wr.heap.size=bd at *
   clear hbd hb4 c0 c1 hb
   cases t with
   | false =>
    have HF:=Lib.hid (show waitsP l=false from waits_bad HD.out (fun h=>by have:=HT.out.1 h;cases this))
    go_wp2_with (go_at_call 99;((with_reducible refine (H1.out _).mono ?_);rintro e w3 ⟨rfl,rfl⟩))
    go_ret
    exact ⟨by rw [HF.out];rfl,HB4.out⟩
   | true =>
    have HK:=Lib.hid (show ∀ d∈l.take (k+1),1≤d.1∧d.1≤1073741824 from fun d hd=>by
     rw [take_snoc HD.out] at hd
     rcases List.mem_append.1 hd with hd | hd
     ·exact HO.out d hd
     ·simp at hd;subst hd;exact HT.out.2 rfl)
    have HK2:=Lib.hid (show flI ((l.take k).map (·.1))++cI dn=flI ((l.take (k+1)).map (·.1)) by rw [take_snoc HD.out,List.map_append,flI_app];rfl)
    have hb5:Below w4.heap.size w4 (w4.alloc (.cells #[.int .i64 dn] 2)):=(Below.refl _ _).alloc (Nat.le_refl _) _
    have HW5:=Lib.hid (show (w4.alloc (.cells #[.int .i64 dn] 2)).ownsRow w.heap.size 2 1 v3 k (flI ((l.take k).map (·.1))) from World.ownsRow.kept HW4.out (grown_new hb5) (by cases hv:v3.ownBlock <;> simp))
    have HC5:=Lib.hid (show ∀ j u,(cI dn)[j]?=some u→(w4.alloc (.cells #[.int .i64 dn] 2)).cell? ((⟨w4.heap.size,0,none⟩:Addr).add j)=some u from fun j u hu=>by
     rw [Addr.add_lit,World.cell?_alloc_mark]
     simpa [cI] using hu)
    have HZ5:=Lib.hid (Nat.le_trans HB4.out.size hb5.size)
    have HB5:=Lib.hid (HB4.out.trans (hb5.mono HB4.out.size))
    clear hb5
    go_wp2_with (first
     | (go_at_call 99;((with_reducible refine (H1.out _).mono ?_);rintro e w3 ⟨rfl,rfl⟩))
     | (at_builtin;refine wpl_app eltI rfl _ _ rfl (base:=w.heap.size) (n:=k) (cs:=flI ((l.take k).map (·.1))) (v:=v3) rfl HW5.out ⟨w4.heap.size,0,none⟩ (cI dn) rfl HC5.out rfl (fun u hu=>by simp [cI] at hu;subst hu;rfl) (by omega) (by decide) HZ5.out ?_;intro gb cb w6 h1 h2;have HW6:=Lib.hid h1;have HB6:=Lib.hid (HB5.out.trans h2);clear h1 h2))
    go_roundw
    case rel=>exact ⟨k+1,_,rfl,by go_num,by omega,HK.out,by rw [←HK2.out];exact HW6.out,HB6.out⟩
    case measure=>simp [intOf];omega
  ·obtain rfl:k=n:=by omega
   have ht:l.take k=l:=List.take_of_length_le (by rw [HN.out];exact Nat.le_refl _)
   rw [ht] at HO HW
   have hlm:(l.map (·.1)).length=k:=by rw [List.length_map,HN.out]
   have HDI:=Lib.hid (distinct_i (l.map (·.1)) v3 wr (by rw [hlm];exact ApC.rdc (.inr HW.out)) (by rw [hlm];exact cp_own HW.out))
   have HR:=Lib.hid (show waitsP l=decide (l.map (·.1)).Nodup by
    unfold waitsP
    rw [Bool.eq_iff_iff]
    simp only [decide_eq_true_eq]
    exact ⟨fun h=>h.2,fun h=>⟨HO.out,h⟩⟩)
   obtain ⟨t,ht2⟩:∃ t,decide (l.map (·.1)).Nodup=t:=⟨_,rfl⟩
   rw [ht2] at HDI HR
   clear ht hlm ht2
   go_wp2_with (go_at_call 100;((with_reducible refine HDI.out.mono ?_);rintro e w3 ⟨rfl,rfl⟩))
   go_ret
   exact ⟨by rw [HR.out];rfl,HB.out⟩
end Go.Proofs.YtekcjfdllclphaaGreatDoor.gn
end
