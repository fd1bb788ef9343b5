/- The document's Great of orders; what a law's argument may be. -/
import Derived.Test.YtekcjfdllclphaaGreatDoorMQaOrI
import Derived.Test.YtekcjfdllclphaaGreatDoorMQaOrF
import Derived.Test.YtekcjfdllclphaaGreatDoorMQaSlGr
import Derived.Test.YtekcjfdllclphaaGreatDoorMQaOrJ
import Derived.Test.YtekcjfdllclphaaGreatDoorMQaOrB
section
set_option linter.unusedVariables false
set_option linter.unusedSimpArgs false
namespace Go.Proofs.YtekcjfdllclphaaGreatDoor.gn
open Go.RowKit
open Go.Proofs.YtekcjfdllclphaaGreatDoor.un
open Go.Proofs.YtekcjfdllclphaaGreatDoor.di
open Go.Proofs.YtekcjfdllclphaaGreatDoor.sp (Slip)
open Go.Proofs.YtekcjfdllclphaaGreatDoor.od (Ord)
structure OA (o:Ord):Prop where
 job:-9223372036854775808≤o.job∧o.job≤9223372036854775807
 n:-9223372036854775808≤o.n∧o.n≤9223372036854775807
 size:-9223372036854775808≤o.size∧o.size≤9223372036854775807
 name:o.name.length≤9223372036854775807
 pool:o.pool.length≤9223372036854775807
 user:o.user.length≤9223372036854775807
 kind:o.kind≤255
 slip:SW o.slip
structure OLook (o:Ord):Prop where
 name:o.name.length≤100
 pool:o.pool.length≤100
 user:o.user.length≤100
 slip:Look o.slip
theorem OA.ow {o:Ord} (h:OA o) (hl:OLook o):OW o:=⟨h.job,h.n,h.size,by have:=hl.name;omega,by have:=hl.pool;omega,by have:=hl.user;omega,h.kind⟩
def OGrT (o:Ord) (w:World) (e:Ending) (w':World):Prop:=∃ b:Bool,e=.returned (.bool b)∧(b=false→OLook o)∧Below w.heap.size w w'
set_option maxRecDepth 100000 in
set_option maxHeartbeats 8000000 in
theorem ogreat_any (o:Ord) (g:Gh) (w:World) (h:SR w o.slip g) (ha:OA o):Calls Tryz.prog 11 #[oV o g] w (OGrT o w):=by
 obtain ⟨wb,hwb⟩:∃ wb,w.alloc (.cells (ocs o g) 29)=wb:=⟨_,rfl⟩
 have hob:OrdB wb w.heap.size o g:=by rw [←hwb];exact BoxA.new _ _ _
 have hB1:Below w.heap.size w wb:=by rw [←hwb];exact (Below.refl _ _).alloc (Nat.le_refl _) _
 have HB1:=Lib.hid hB1
 have HWB:=Lib.hid hwb
 have HGR:=Lib.hid (great_any o.slip g wb (h.next hB1) ha.slip)
 obtain ⟨-,-,-,c3,c4,c5,-,-,t8,t9,t10,t11,t12,t13,t14,t15,t16,t17,t18,t19,clt⟩:=ocel hob
 have z1:=str_size o.name
 have z2:=str_size o.pool
 have z3:=str_size o.user
 have y1:(str o.name).size≤9223372036854775807:=by rw [z1];exact ha.name
 have y2:(str o.pool).size≤9223372036854775807:=by rw [z2];exact ha.pool
 have y3:(str o.user).size≤9223372036854775807:=by rw [z3];exact ha.user
 clear h ha hB1 hwb hob
 go_enter Tryz.func11,Tryz.ntmps11
 apply wp_seq_k
 intro K hK
 apply wp_region_lit
 refine Great.wpList_boxTo rfl _ _ rfl _ rfl w.heap.size rfl (ocs o g) rfl ?_
 rw [HWB.out]
 by_cases g0:100 < o.name.length
 ·have x0:100 < (str o.name).size:=by omega
  clear HGR
  go_wp2
  go_ret
  exact ⟨true,rfl,(fun h=>by cases h),HB1.out⟩
 ·have x0:¬ 100 < (str o.name).size:=by omega
  by_cases g1:100 < o.pool.length
  ·have x1:100 < (str o.pool).size:=by omega
   clear HGR
   go_wp2
   go_ret
   exact ⟨true,rfl,(fun h=>by cases h),HB1.out⟩
  ·have x1:¬ 100 < (str o.pool).size:=by omega
   by_cases g2:100 < o.user.length
   ·have x2:100 < (str o.user).size:=by omega
    clear HGR
    go_wp2
    go_ret
    exact ⟨true,rfl,(fun h=>by cases h),HB1.out⟩
   ·have x2:¬ 100 < (str o.user).size:=by omega
    have HL:=Lib.hid (show o.name.length≤100∧o.pool.length≤100∧o.user.length≤100 by omega)
    have HD:=Lib.hid (show decide (100 < ((str o.name).size:Int))=false∧decide (100 < ((str o.pool).size:Int))=false∧decide (100 < ((str o.user).size:Int))=false from ⟨decide_eq_false (by omega),decide_eq_false (by omega),decide_eq_false (by omega)⟩)
    obtain ⟨va,vm,vd,vu⟩:=g
    unfold sV scs at HGR
    dsimp only at HGR t8 t9 t10 t11 t12 t13 t14 t15 t16 t17 t18 t19
    clear g0 g1 g2 z1 z2 z3
    go_wp2_with (go_at_call 27;((with_reducible refine HGR.out.mono ?_);rintro e w1 ⟨b,rfl,hlk,hb⟩);have A1:=Lib.hid hb;have HK:=Lib.hid hlk;clear hb hlk)
    go_ret
    refine ⟨b,?_,fun e=>⟨HL.out.1,HL.out.2.1,HL.out.2.2,HK.out e⟩,HB1.out.trans (A1.out.mono HB1.out.size)⟩
    show Ending.returned (.bool (decide (100 < ((str o.name).size:Int)) || decide (100 < ((str o.pool).size:Int)) || decide (100 < ((str o.user).size:Int)) || b))=_
    rw [HD.out.1,HD.out.2.1,HD.out.2.2]
    rfl
end Go.Proofs.YtekcjfdllclphaaGreatDoor.gn
end
section
set_option linter.unusedVariables false
set_option linter.unusedSimpArgs false
namespace Go.Proofs.YtekcjfdllclphaaGreatDoor.gn
open Go.RowKit
open Go.Proofs.YtekcjfdllclphaaGreatDoor.un
open Go.Proofs.YtekcjfdllclphaaGreatDoor.di
open Go.Proofs.YtekcjfdllclphaaGreatDoor.sp (Slip Ok)
structure Dull (cs:Array Value):Prop where
 a:∀ (i:Nat) (j:Int) (b:Bool),cs[i]?=some (.int .i64 j)→cs[i+1]?=some (.bool b)→j < 1
 m:∀ (i:Nat) (k:Int) (s:ByteArray),cs[i]?=some (.int .u8 k)→cs[i+1]?≠some (.string s)
 s:∀ (i:Nat) (n:Tx),cs[i]?=some (.string (str n))→n=[]
theorem str_nil {n:Tx} (h:(str n:ByteArray)={ data:=#[] }):n=[]:=by
 have:=str_size n
 rw [h] at this
 exact List.length_eq_zero_iff.1 this.symm
theorem twenty {i:Nat} (h:i < 20):i=0∨i=1∨i=2∨i=3∨i=4∨i=5∨i=6∨i=7∨i=8∨i=9∨i=10∨i=11∨i=12∨i=13∨i=14∨i=15∨i=16∨i=17∨i=18∨i=19:=by omega
theorem dull_at (k:Nat):Dull (atO k):=by
 have hs:(atO k).size=20:=rfl
 have hlt:∀ {i:Nat} {u:Value},(atO k)[i]?=some u→i < 20:=fun h=>by rw [←hs];exact (Array.getElem?_eq_some_iff.1 h).1
 refine ⟨fun i j b h1 h2=>?_,fun i q s h1 h2=>?_,fun i n h1=>?_⟩
 ·rcases twenty (hlt h1) with rfl | rfl | rfl | rfl | rfl | rfl | rfl | rfl | rfl | rfl | rfl | rfl | rfl | rfl | rfl | rfl | rfl | rfl | rfl | rfl <;> simp [atO] at h1 h2 <;> omega
 ·rcases twenty (hlt h1) with rfl | rfl | rfl | rfl | rfl | rfl | rfl | rfl | rfl | rfl | rfl | rfl | rfl | rfl | rfl | rfl | rfl | rfl | rfl | rfl <;> simp [atO] at h1 h2
 ·rcases twenty (hlt h1) with rfl | rfl | rfl | rfl | rfl | rfl | rfl | rfl | rfl | rfl | rfl | rfl | rfl | rfl | rfl | rfl | rfl | rfl | rfl | rfl <;> simp [atO] at h1 <;> exact str_nil h1.symm
theorem dull_spot:Dull #[.int .i64 0,.int .i64 0]:=by
 have hlt:∀ {i:Nat} {u:Value},(#[Value.int .i64 0,Value.int .i64 0]:Array Value)[i]?=some u→i=0∨i=1:=fun h=>by have:=(Array.getElem?_eq_some_iff.1 h).1;simp at this;omega
 refine ⟨fun i j b h1 h2=>?_,fun i q s h1 h2=>?_,fun i n h1=>?_⟩
 ·rcases hlt h1 with rfl | rfl <;> simp at h2
 ·rcases hlt h1 with rfl | rfl <;> simp at h1
 ·rcases hlt h1 with rfl | rfl <;> simp at h1
theorem rdc_apart {W X:World} {R:Nat} {t:TypeId} {cs:Array Value} {v:Value} {n:Nat} {us:List Value} (h:RdC W v n us) (hb:BoxA W R t cs) (hs:W.heap.size≤X.heap.size) (hk:∀ b,b < W.heap.size→b≠R→X.heap[b]?=W.heap[b]?)
  (hne:us≠[]→∀ i:Nat,¬ ∀ (j:Nat) (u:Value),us[j]?=some u→cs[i+j]?=some u):RdC X v n us:=by
 rcases h with h | ⟨b,off,c,e,hlt,hc⟩
 ·exact .inl h
 ·refine .inr ⟨b,off,c,e,Nat.lt_of_lt_of_le hlt hs,?_⟩
  by_cases hr:b=R
  ·subst hr
   by_cases hu:us=[]
   ·intro j u hj
    rw [hu] at hj
    cases hj
   ·exfalso
    refine hne hu off fun j u hj=>?_
    have:=hc j u hj
    simpa [World.cell?,show W.heap[b]?=_ from hb] using this
  ·intro j u hj
   exact (World.cell?_of_block (a:=⟨b,off+j,none⟩) (hk b hlt hr)).trans (hc j u hj)
theorem sr_apart {W X:World} {R:Nat} {t:TypeId} {cs:Array Value} {x:Slip} {g:Gh} (h:SR W x g) (hx:Ok x) (hb:BoxA W R t cs) (hd:Dull cs) (hs:W.heap.size≤X.heap.size) (hk:∀ b,b < W.heap.size→b≠R→X.heap[b]?=W.heap[b]?):SR X x g:=by
 have key:∀ (l:List Tx),(∀ n∈l,isName n=true)→flS l≠[]→∀ i:Nat,¬ ∀ (j:Nat) (u:Value),(flS l)[j]?=some u→cs[i+j]?=some u:=fun l hl hne i hall=>by
  cases l with
  | nil=>exact hne rfl
  | cons n r =>
   have h0:=hd.s i n (hall 0 _ rfl)
   have:=hl n (by simp)
   rw [h0] at this
   cases this
 refine ⟨rdc_apart h.a hb hs hk fun hne i hall=>?_,rdc_apart h.m hb hs hk fun hne i hall=>?_,rdc_apart h.d hb hs hk (key _ hx.drop.2.2),rdc_apart h.u hb hs hk (key _ hx.use.2.2),h.ca,h.cm,h.cd,h.cu⟩
 ·cases ha:x.after with
  | nil=>rw [ha] at hne;exact hne rfl
  | cons d r =>
   rw [ha] at hall
   have h1:=hd.a i d.1 d.2 (hall 0 _ rfl) (hall 1 _ rfl)
   have h2:=hx.after.2.2 d (by rw [ha];simp)
   omega
 ·cases hm:x.make with
  | nil=>rw [hm] at hne;exact hne rfl
  | cons d r =>
   rw [hm] at hall
   exact hd.m i _ _ (hall 0 _ rfl) (hall 1 _ rfl)
open Go.Proofs.YtekcjfdllclphaaGreatDoor.sp in
theorem lrun_up:∀ (L:List Tx) (s:Slip × List Nat) (i:Nat) (e:Int × Nat),lrun s i L=.error e→e.2≤i+L.length
 | [],s,i,e,h=>by simp [lrun] at h
 | l::r,s,i,e,h=>by
  unfold lrun at h
  split at h
  ·split at h
   ·cases h;simp
   ·split at h
    ·cases h;simp
    ·have:=lrun_up r _ _ _ h
     simp;omega
  ·have:=lrun_up r _ _ _ h
   simp;omega
open Go.Proofs.YtekcjfdllclphaaGreatDoor.sp in
theorem sread_bd (s:Tx):(sread s).2.2≤s.length+3:=by
 unfold sread
 split
 ·simp
 ·split
  ·simp
  ·next l ws hc =>
   have hl:=cuts_len 10 s
   rw [hc] at hl
   simp at hl
   split
   ·simp
   ·split
    ·next e he =>
     have:=lrun_up _ _ _ _ he
     dsimp only
     omega
    ·split
     ·simp
     ·dsimp only;omega
end Go.Proofs.YtekcjfdllclphaaGreatDoor.gn
end
section
set_option linter.unusedVariables false
namespace Go.Proofs.YtekcjfdllclphaaGreatDoor.gn
open Go.ChangeShapes Go.WideShapes Go.ChangeAt Go.RowKit Go.Deep
open Go.Proofs.YtekcjfdllclphaaGreatDoor.un
open Go.Proofs.YtekcjfdllclphaaGreatDoor.di
open Go.Proofs.YtekcjfdllclphaaGreatDoor.sp (Slip)
open Go.Proofs.YtekcjfdllclphaaGreatDoor.od (Ord)
section
variable {H : Type} {enc : TypeId × Value → H} {W : World}
set_option maxRecDepth 100000 in
theorem open_slip12 {fuel:Nat} {cs:List Value} {x:DataW H × List MemPlace} (h:DataW.trod enc Tryz.prog W 0 (fun _=>true) true fuel 27 cs=some x) (hl:cs.length=12) :
  ∃ (s:Slip) (g:Gh),cs=(scs s g).toList∧SR W s g∧SW s:=by
 obtain ⟨c0,c1,c2,c3,c4,c5,c6,c7,c8,c9,c10,c11,rfl⟩:=list12 hl
 obtain ⟨xs,m,_,_,_,hlen,hk⟩:=DataW.trod_struct Tryz.underlying27 h
 obtain ⟨z0,z1,z2,z3,z4,z5,z6,z7,z8,z9,z10,z11,rfl⟩:=list12 hlen
 have k0:DataW.trod enc Tryz.prog W 0 (fun _=>true) true m 9 [c0]=some z0:=by simpa [dStr] using hk 0 _ rfl
 have k1:DataW.trod enc Tryz.prog W 0 (fun _=>true) true m 2 [c1]=some z1:=by simpa [dI64] using hk 1 _ rfl
 have k2:DataW.trod enc Tryz.prog W 0 (fun _=>true) true m 2 [c2]=some z2:=by simpa [dI64] using hk 2 _ rfl
 have k3:DataW.trod enc Tryz.prog W 0 (fun _=>true) true m 2 [c3]=some z3:=by simpa [dI64] using hk 3 _ rfl
 have k4:DataW.trod enc Tryz.prog W 0 (fun _=>true) true m 23 [c4]=some z4:=by simpa [dRA] using hk 4 _ rfl
 have k5:DataW.trod enc Tryz.prog W 0 (fun _=>true) true m 2 [c5]=some z5:=by simpa [dI64] using hk 5 _ rfl
 have k6:DataW.trod enc Tryz.prog W 0 (fun _=>true) true m 2 [c6]=some z6:=by simpa [dI64] using hk 6 _ rfl
 have k7:DataW.trod enc Tryz.prog W 0 (fun _=>true) true m 2 [c7]=some z7:=by simpa [dI64] using hk 7 _ rfl
 have k8:DataW.trod enc Tryz.prog W 0 (fun _=>true) true m 9 [c8]=some z8:=by simpa [dStr] using hk 8 _ rfl
 have k9:DataW.trod enc Tryz.prog W 0 (fun _=>true) true m 24 [c9]=some z9:=by simpa [dRM] using hk 9 _ rfl
 have k10:DataW.trod enc Tryz.prog W 0 (fun _=>true) true m 25 [c10]=some z10:=by simpa [dRS] using hk 10 _ rfl
 have k11:DataW.trod enc Tryz.prog W 0 (fun _=>true) true m 25 [c11]=some z11:=by simpa [dRS] using hk 11 _ rfl
 obtain ⟨us,rfl,hus⟩:=open_str k0
 obtain ⟨nodes,rfl,hno⟩:=open_int64 k1
 obtain ⟨wall,rfl,hwa⟩:=open_int64 k2
 obtain ⟨qos,rfl,hqo⟩:=open_int64 k3
 obtain ⟨cap,rfl,hca⟩:=open_int64 k5
 obtain ⟨inn,rfl,hin⟩:=open_int64 k6
 obtain ⟨out,rfl,hou⟩:=open_int64 k7
 obtain ⟨pool,rfl,hpo⟩:=open_str k8
 obtain ⟨after,ra,pa,wa⟩:=open_rowG cA (k:=2) (fun _=>rfl) (by decide) (fun d:Dep=>-9223372036854775808≤d.1∧d.1≤9223372036854775807) (0,false) Tryz.underlying23 dDep2 (fun _ _ _ h hl=>open_dep h hl) k4
 obtain ⟨mk,rm,pm,wm⟩:=open_rowG cM (k:=5) (fun _=>rfl) (by decide) DW ⟨0,[],[],0,false⟩ Tryz.underlying24 dDir5 (fun _ _ _ h hl=>open_dir5 h hl) k9
 obtain ⟨dr,rd,pd,wd⟩:=open_rowG cS (k:=1) (fun _=>rfl) (by decide) (fun l:Tx=>l.length≤9223372036854775807) [] Tryz.underlying25 dStr (fun _ _ _ h hl=>open_s1 h hl) k10
 obtain ⟨use,ru,pu,wu⟩:=open_rowG cS (k:=1) (fun _=>rfl) (by decide) (fun l:Tx=>l.length≤9223372036854775807) [] Tryz.underlying25 dStr (fun _ _ _ h hl=>open_s1 h hl) k11
 exact ⟨⟨us,nodes,wall,qos,after,cap,inn,out,pool,mk,dr,use⟩,⟨c4,c9,c10,c11⟩,rfl,⟨ra,rm,rd,ru,pa,pm,pd,pu⟩,⟨hus,hpo,hno,hwa,hqo,hca,hin,hou,wa,wm,wd,wu⟩⟩
theorem list9 {α:Type} {l:List α} (h:l.length=9):∃ a b c d e f g h i,l=[a,b,c,d,e,f,g,h,i]:=by
 match l,h with
 | [a,b,c,d,e,f,g,h,i],_=>exact ⟨a,b,c,d,e,f,g,h,i,rfl⟩
theorem list20 {α:Type} {l:List α} (h:l.length=20):∃ a b c d e f g i j k m n p q r s t u v x,l=[a,b,c,d,e,f,g,i,j,k,m,n,p,q,r,s,t,u,v,x]:=by
 match l,h with
 | [a,b,c,d,e,f,g,i,j,k,m,n,p,q,r,s,t,u,v,x],_=>exact ⟨a,b,c,d,e,f,g,i,j,k,m,n,p,q,r,s,t,u,v,x,rfl⟩
theorem dOrd20:Tryz.prog.cellsOf 29=20:=by kernel_rfl
set_option maxRecDepth 100000 in
theorem open_ord {base:Nat} {v:Value} {d:DataW H} {p:List MemPlace} (hv:Value.okWide Tryz.prog W .any base 29 v) (h:DataW.Trod enc Tryz.prog W 0 (fun _=>true) true 29 v d p) :
  ∃ (x:Ord) (g:Gh),v=oV x g∧SR W x.slip g∧OA x:=by
 obtain ⟨cs,rfl,hsz⟩:=okWide_struct Tryz.underlying29 hv
 obtain ⟨l⟩:=cs
 obtain ⟨c0,c1,c2,c3,c4,c5,c6,c7,c8,c9,c10,c11,c12,c13,c14,c15,c16,c17,c18,c19,rfl⟩:=list20 (show l.length=20 from hsz.trans dOrd20)
 obtain ⟨fuel,hf⟩:=h
 have hf':DataW.trod enc Tryz.prog W 0 (fun _=>true) true fuel 29 [c0,c1,c2,c3,c4,c5,c6,c7,c8,c9,c10,c11,c12,c13,c14,c15,c16,c17,c18,c19]=some (d,p):=by simpa [Value.cells] using hf
 obtain ⟨xs,m,_,_,_,hlen,hk⟩:=DataW.trod_struct Tryz.underlying29 hf'
 obtain ⟨z0,z1,z2,z3,z4,z5,z6,z7,z8,rfl⟩:=list9 hlen
 have k0:DataW.trod enc Tryz.prog W 0 (fun _=>true) true m 5 [c0]=some z0:=by simpa [dU8] using hk 0 _ rfl
 have k1:DataW.trod enc Tryz.prog W 0 (fun _=>true) true m 2 [c1]=some z1:=by simpa [dI64] using hk 1 _ rfl
 have k2:DataW.trod enc Tryz.prog W 0 (fun _=>true) true m 2 [c2]=some z2:=by simpa [dI64] using hk 2 _ rfl
 have k3:DataW.trod enc Tryz.prog W 0 (fun _=>true) true m 9 [c3]=some z3:=by simpa [dStr] using hk 3 _ rfl
 have k4:DataW.trod enc Tryz.prog W 0 (fun _=>true) true m 9 [c4]=some z4:=by simpa [dStr] using hk 4 _ rfl
 have k5:DataW.trod enc Tryz.prog W 0 (fun _=>true) true m 9 [c5]=some z5:=by simpa [dStr] using hk 5 _ rfl
 have k6:DataW.trod enc Tryz.prog W 0 (fun _=>true) true m 2 [c6]=some z6:=by simpa [dI64] using hk 6 _ rfl
 have k7:DataW.trod enc Tryz.prog W 0 (fun _=>true) true m 4 [c7]=some z7:=by simpa [dBool] using hk 7 _ rfl
 have k8:DataW.trod enc Tryz.prog W 0 (fun _=>true) true m 27 [c8,c9,c10,c11,c12,c13,c14,c15,c16,c17,c18,c19]=some z8:=by simpa [dSlip12] using hk 8 _ rfl
 obtain ⟨q0,e0,_,w0⟩:=DataW.trod_int Tryz.underlying5 k0
 simp at e0
 subst e0
 obtain ⟨l1,u1⟩:0≤q0∧q0≤255:=by simpa [Lit.wf,IntKind.min,IntKind.max,IntKind.signed,IntKind.bits] using w0
 obtain ⟨job,rfl,hjo⟩:=open_int64 k1
 obtain ⟨n,rfl,hn⟩:=open_int64 k2
 obtain ⟨nm,rfl,hnm⟩:=open_str k3
 obtain ⟨po,rfl,hpo⟩:=open_str k4
 obtain ⟨us,rfl,hus⟩:=open_str k5
 obtain ⟨sz,rfl,hsi⟩:=open_int64 k6
 obtain ⟨b7,e7,_⟩:=DataW.trod_bool Tryz.underlying4 k7
 simp at e7
 subst e7
 obtain ⟨s,g,hsl,hr,hw⟩:=open_slip12 k8 rfl
 refine ⟨⟨q0.toNat,job,n,nm,po,us,sz,b7,s⟩,g,?_,hr,⟨hjo,hn,hsi,hnm,hpo,hus,(by show q0.toNat≤255;omega),hw⟩⟩
 have hq:((q0.toNat:Nat):Int)=q0:=by omega
 simp only [scs,List.cons.injEq,and_true] at hsl
 obtain ⟨rfl,rfl,rfl,rfl,rfl,rfl,rfl,rfl,rfl,rfl,rfl,rfl⟩:=hsl
 simp [oV,ocs,hq]
end
end Go.Proofs.YtekcjfdllclphaaGreatDoor.gn
end
