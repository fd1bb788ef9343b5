/- Rows of a slip that may be lie in none of the boxes that hold nothing of it. -/
import Derived.Test.YtekcjfdllclphaaGreatDoorMQbOrJ
import Derived.Test.YtekcjfdllclphaaGreatDoorMQbOrR
import Derived.Test.YtekcjfdllclphaaGreatDoorMQbSlSa
import Derived.Laws.StructEq
import Derived.Test.YtekcjfdllclphaaGreatDoorMQbGenLoad
import Derived.Test.YtekcjfdllclphaaGreatDoorMQbOrG
import Derived.Test.YtekcjfdllclphaaGreatDoorMQbGenTail
import Derived.Test.YtekcjfdllclphaaGreatDoorMQbUnG
import Derived.BigQuiet
import Derived.Test.YtekcjfdllclphaaGreatDoorMQbGen
set_option linter.unusedVariables false
set_option linter.unusedSimpArgs false
section
namespace Go.Proofs.YtekcjfdllclphaaGreatDoor.gn
open Go.RowKit
open Go.Proofs.YtekcjfdllclphaaGreatDoor.un
open Go.Proofs.YtekcjfdllclphaaGreatDoor.di
open Go.Proofs.YtekcjfdllclphaaGreatDoor.sp (Slip Ok)
structure Dull (cs:Array Value):Prop where
 a:∀ (i:Nat) (j:Int) (b:Bool),cs[i]?=some (.int .i64 j)→cs[i+1]?=some (.bool b)→j < 1
 m:∀ (i:Nat) (k:Int) (s:ByteArray),cs[i]?=some (.int .u8 k)→cs[i+1]?≠some (.string s)
 s:∀ (i:Nat) (n:Tx),cs[i]?=some (.string (str n))→n=[]
theorem str_nil {n:Tx} (h:(str n:ByteArray)={ data:=#[] }):n=[]:=by
 have:=str_size n
 rw [h] at this
 exact List.length_eq_zero_iff.1 this.symm
theorem twenty {i:Nat} (h:i < 20):i=0∨i=1∨i=2∨i=3∨i=4∨i=5∨i=6∨i=7∨i=8∨i=9∨i=10∨i=11∨i=12∨i=13∨i=14∨i=15∨i=16∨i=17∨i=18∨i=19:=by omega
theorem dull_at (k:Nat):Dull (atO k):=by
 have hs:(atO k).size=20:=rfl
 have hlt:∀ {i:Nat} {u:Value},(atO k)[i]?=some u→i < 20:=fun h=>by rw [←hs];exact (Array.getElem?_eq_some_iff.1 h).1
 refine ⟨fun i j b h1 h2=>?_,fun i q s h1 h2=>?_,fun i n h1=>?_⟩
 ·rcases twenty (hlt h1) with rfl | rfl | rfl | rfl | rfl | rfl | rfl | rfl | rfl | rfl | rfl | rfl | rfl | rfl | rfl | rfl | rfl | rfl | rfl | rfl <;> simp [atO] at h1 h2 <;> omega
 ·rcases twenty (hlt h1) with rfl | rfl | rfl | rfl | rfl | rfl | rfl | rfl | rfl | rfl | rfl | rfl | rfl | rfl | rfl | rfl | rfl | rfl | rfl | rfl <;> simp [atO] at h1 h2
 ·rcases twenty (hlt h1) with rfl | rfl | rfl | rfl | rfl | rfl | rfl | rfl | rfl | rfl | rfl | rfl | rfl | rfl | rfl | rfl | rfl | rfl | rfl | rfl <;> simp [atO] at h1 <;> exact str_nil h1.symm
theorem dull_spot:Dull #[.int .i64 0,.int .i64 0]:=by
 have hlt:∀ {i:Nat} {u:Value},(#[Value.int .i64 0,Value.int .i64 0]:Array Value)[i]?=some u→i=0∨i=1:=fun h=>by have:=(Array.getElem?_eq_some_iff.1 h).1;simp at this;omega
 refine ⟨fun i j b h1 h2=>?_,fun i q s h1 h2=>?_,fun i n h1=>?_⟩
 ·rcases hlt h1 with rfl | rfl <;> simp at h2
 ·rcases hlt h1 with rfl | rfl <;> simp at h1
 ·rcases hlt h1 with rfl | rfl <;> simp at h1
theorem rdc_apart {W X:World} {R:Nat} {t:TypeId} {cs:Array Value} {v:Value} {n:Nat} {us:List Value} (h:RdC W v n us) (hb:BoxA W R t cs) (hs:W.heap.size≤X.heap.size) (hk:∀ b,b < W.heap.size→b≠R→X.heap[b]?=W.heap[b]?)
  (hne:us≠[]→∀ i:Nat,¬ ∀ (j:Nat) (u:Value),us[j]?=some u→cs[i+j]?=some u):RdC X v n us:=by
 rcases h with h | ⟨b,off,c,e,hlt,hc⟩
 ·exact .inl h
 ·refine .inr ⟨b,off,c,e,Nat.lt_of_lt_of_le hlt hs,?_⟩
  by_cases hr:b=R
  ·subst hr
   by_cases hu:us=[]
   ·intro j u hj
    rw [hu] at hj
    cases hj
   ·exfalso
    refine hne hu off fun j u hj=>?_
    have:=hc j u hj
    simpa [World.cell?,show W.heap[b]?=_ from hb] using this
  ·intro j u hj
   exact (World.cell?_of_block (a:=⟨b,off+j,none⟩) (hk b hlt hr)).trans (hc j u hj)
theorem sr_apart {W X:World} {R:Nat} {t:TypeId} {cs:Array Value} {x:Slip} {g:Gh} (h:SR W x g) (hx:Ok x) (hb:BoxA W R t cs) (hd:Dull cs) (hs:W.heap.size≤X.heap.size) (hk:∀ b,b < W.heap.size→b≠R→X.heap[b]?=W.heap[b]?):SR X x g:=by
 have key:∀ (l:List Tx),(∀ n∈l,isName n=true)→flS l≠[]→∀ i:Nat,¬ ∀ (j:Nat) (u:Value),(flS l)[j]?=some u→cs[i+j]?=some u:=fun l hl hne i hall=>by
  cases l with
  | nil=>exact hne rfl
  | cons n r =>
   have h0:=hd.s i n (hall 0 _ rfl)
   have:=hl n (by simp)
   rw [h0] at this
   cases this
 refine ⟨rdc_apart h.a hb hs hk fun hne i hall=>?_,rdc_apart h.m hb hs hk fun hne i hall=>?_,rdc_apart h.d hb hs hk (key _ hx.drop.2.2),rdc_apart h.u hb hs hk (key _ hx.use.2.2),h.ca,h.cm,h.cd,h.cu⟩
 ·cases ha:x.after with
  | nil=>rw [ha] at hne;exact hne rfl
  | cons d r =>
   rw [ha] at hall
   have h1:=hd.a i d.1 d.2 (hall 0 _ rfl) (hall 1 _ rfl)
   have h2:=hx.after.2.2 d (by rw [ha];simp)
   omega
 ·cases hm:x.make with
  | nil=>rw [hm] at hne;exact hne rfl
  | cons d r =>
   rw [hm] at hall
   exact hd.m i _ _ (hall 0 _ rfl) (hall 1 _ rfl)
open Go.Proofs.YtekcjfdllclphaaGreatDoor.sp in
theorem lrun_up:∀ (L:List Tx) (s:Slip × List Nat) (i:Nat) (e:Int × Nat),lrun s i L=.error e→e.2≤i+L.length
 | [],s,i,e,h=>by simp [lrun] at h
 | l::r,s,i,e,h=>by
  unfold lrun at h
  split at h
  ·split at h
   ·cases h;simp
   ·split at h
    ·cases h;simp
    ·have:=lrun_up r _ _ _ h
     simp;omega
  ·have:=lrun_up r _ _ _ h
   simp;omega
open Go.Proofs.YtekcjfdllclphaaGreatDoor.sp in
theorem sread_bd (s:Tx):(sread s).2.2≤s.length+3:=by
 unfold sread
 split
 ·simp
 ·split
  ·simp
  ·next l ws hc =>
   have hl:=cuts_len 10 s
   rw [hc] at hl
   simp at hl
   split
   ·simp
   ·split
    ·next e he =>
     have:=lrun_up _ _ _ _ he
     dsimp only
     omega
    ·split
     ·simp
     ·dsimp only;omega
end Go.Proofs.YtekcjfdllclphaaGreatDoor.gn
end
section
namespace Go.Proofs.YtekcjfdllclphaaGreatDoor.gn
open Go.RowKit
open Go.Proofs.YtekcjfdllclphaaGreatDoor.un
open Go.Proofs.YtekcjfdllclphaaGreatDoor.di
open Go.Proofs.YtekcjfdllclphaaGreatDoor.sp (Slip sread)
theorem boxes_a (w:World) (z:Array Value) (t:TypeId) (y:Array Value) (u:TypeId):((w.alloc (.cells z t)).alloc (.cells y u)).heap[w.heap.size]?=some (.cells z t (0,0)):=BoxA.next (BoxA.new w t z) ((Below.refl _ _).alloc (Nat.le_refl _) _)
theorem boxes_b (w:World) (z:Array Value) (t:TypeId) (y:Array Value) (u:TypeId) (cs:Array Value):(((w.alloc (.cells z t)).alloc (.cells y u)).setRow w.heap.size cs).heap[w.heap.size+1]?=some (.cells y u (0,0)):=by
 have:=BoxA.new (w.alloc (.cells z t)) u y
 rw [World.size_alloc] at this
 exact (setRow_other _ _ _ _ (by omega)).trans this
theorem boxes_end (w:World) (z y cs ds:Array Value) (t u:TypeId):∃ W,(((w.alloc (.cells z t)).alloc (.cells y u)).setRow w.heap.size cs).setRow (w.heap.size+1) ds=W∧BoxA W w.heap.size t cs∧BoxA W (w.heap.size+1) u ds∧Below w.heap.size w W :=
 ⟨_,rfl,(setRow_other _ _ _ _ (by omega)).trans (setRow_heap _ _ _ _ _ _ (boxes_a w z t y u)),setRow_heap _ _ _ _ _ _ (boxes_b w z t y u cs),below_setRow (below_setRow (((Below.refl _ w).alloc (Nat.le_refl _) _).alloc (by simp) _) (Nat.le_refl _) _) (by omega) _⟩
theorem spot_eqIn (a b c d:Int) (W:World):(Op.equalIn 10000 32 (.agg #[.int .i64 a,.int .i64 b]) (.agg #[.int .i64 c,.int .i64 d])).run Tryz.prog W=.ok (decide (a=c) && decide (b=d)) W:=by
 rw [run_equalIn_agg W 9999 32 #[.int .i64 a,.int .i64 b] #[.int .i64 c,.int .i64 d] (by kernel_rfl) (by kernel_rfl)]
 unfold Program.fieldsOf
 rw [Tryz.underlying32]
 simp [Op.eqFields,go_sem,Tryz.underlying30,Tryz.underlying3]
 by_cases h1:a=c <;> by_cases h2:b=d <;> simp [h1,h2]
theorem spot_eq (a b c d:Int) (W:World):(binOp .eql 32 (.agg #[.int .i64 a,.int .i64 b]) (.agg #[.int .i64 c,.int .i64 d])).run Tryz.prog W=.ok (.bool (decide (a=c) && decide (b=d))) W:=by
 rw [run_eql_struct,spot_eqIn]
 rfl
def PaA (x:Slip) (e l:Int) (w:World) (en:Ending) (w':World):Prop:=Below w.heap.size w w'∧∃ g,en=.returned (.tuple #[sV x g,.agg #[.int .i64 e,.int .i64 l]])∧SR w' x g
theorem parse_as {s:Tx} (hm:s.length≤9223372036854775807) {x:Slip} {e l:Int} (h1:(sread s).1=x) (h2:(sread s).2.1=e) (h3:((sread s).2.2:Int)=l) (w:World) (hL:LaidD w):Calls Tryz.prog 18 #[.string (str s)] w (PaA x e l w):=by
 have:=sParse_any s hm w hL
 unfold PaT at this
 rw [h1,h2,h3] at this
 exact this
theorem spot_ne (a b c d:Int) (W:World):(binOp .neq 32 (.agg #[.int .i64 a,.int .i64 b]) (.agg #[.int .i64 c,.int .i64 d])).run Tryz.prog W=.ok (.bool (!(decide (a=c) && decide (b=d)))) W:=by
 rw [run_neq_struct,spot_eqIn]
 rfl
end Go.Proofs.YtekcjfdllclphaaGreatDoor.gn
end
section
namespace Go.Proofs.YtekcjfdllclphaaGreatDoor.sp
open Go.Proofs.YtekcjfdllclphaaGreatDoor.un
open Go.Proofs.YtekcjfdllclphaaGreatDoor.di
theorem cutB_none (c:UInt8):∀ l:Tx,c ∉ l→cutB c l=none
 | [],_=>rfl
 | b::r,h=>by
  simp only [List.mem_cons,not_or] at h
  unfold cutB
  rw [if_neg (fun e=>h.1 e.symm),cutB_none c r h.2]
  rfl
def key2 (k:Tx):UInt8:=k.headD 63
def five:List Tx:=[userK,nodesK,wallK,qosK,afterK]
theorem five_inj:∀ k∈five,∀ m∈five,key2 k=key2 m→k=m:=by decide
def KeysOk (K:List Tx):Prop:=∀ k∈K,k∈five
theorem fput_five {x:Slip} {k v:Tx} (h:k ∉ five):fput x (k,v)=none:=by
 simp only [five,List.mem_cons,List.not_mem_nil,or_false,not_or] at h
 unfold fput
 rw [if_neg h.1,if_neg h.2.1,if_neg h.2.2.1,if_neg h.2.2.2.1,if_neg h.2.2.2.2]
theorem key_in {K:List Tx} {k:Tx} (hK:KeysOk K) (h:key2 k∈K.map key2):k∈K∨k ∉ five:=by
 obtain ⟨m,hm,e⟩:=List.mem_map.1 h
 by_cases h5:k∈five
 ·exact .inl (by rw [←five_inj m (hK m hm) k h5 e];exact hm)
 ·exact .inr h5
theorem key_out {K:List Tx} {k:Tx} (h:key2 k ∉ K.map key2):k ∉ K:=fun hm=>h (List.mem_map.2 ⟨k,hm,rfl⟩)
theorem key_has {K:List Tx} (hK:KeysOk K) {u:Tx} (hu:u∈five):key2 u∈K.map key2↔u∈K:=by
 refine ⟨fun h=>?_,fun h=>List.mem_map.2 ⟨u,h,rfl⟩⟩
 rcases key_in hK h with h | h
 ·exact h
 ·exact absurd hu h
theorem keys_more {K:List Tx} {k:Tx} (hK:KeysOk K) (hk:k∈five):KeysOk (K++[k]):=fun m hm=>by
 rcases List.mem_append.1 hm with h | h
 ·exact hK m h
 ·simp at h;subst h;exact hk
def LeftF (ws:List Tx) (i:Nat) (x:Slip) (K:List Tx):Prop:=frun (Slip.zero,[]) ws=frun (x,K) (ws.drop i)
theorem left_start (ws:List Tx):LeftF ws 0 Slip.zero []:=rfl
theorem left_next {ws:List Tx} {i:Nat} {x:Slip} {K:List Tx} {w:Tx} (h:LeftF ws i x K) (hw:ws[i]?=some w) {k v:Tx} (hc:cutB 61 w=some (k,v)) (hk:k ∉ K) {y:Slip} (hp:fput x (k,v)=some y):LeftF ws (i+1) y (K++[k]):=by
 unfold LeftF at *
 obtain ⟨hi,hw⟩:=List.getElem?_eq_some_iff.1 hw
 rw [h,List.drop_eq_getElem_cons hi,hw,frun,cut_B,hc]
 dsimp only
 rw [if_neg hk,hp]
theorem left_nocut {ws:List Tx} {i:Nat} {x:Slip} {K:List Tx} {w:Tx} (h:LeftF ws i x K) (hw:ws[i]?=some w) (hc:cutB 61 w=none):frun (Slip.zero,[]) ws=none:=by
 unfold LeftF at h
 obtain ⟨hi,hw⟩:=List.getElem?_eq_some_iff.1 hw
 rw [h,List.drop_eq_getElem_cons hi,hw,frun,cut_B,hc]
theorem left_no {ws:List Tx} {i:Nat} {x:Slip} {K:List Tx} {w:Tx} (h:LeftF ws i x K) (hw:ws[i]?=some w) {k v:Tx} (hc:cutB 61 w=some (k,v)) (hk:k∈K∨fput x (k,v)=none):frun (Slip.zero,[]) ws=none:=by
 unfold LeftF at h
 obtain ⟨hi,hw⟩:=List.getElem?_eq_some_iff.1 hw
 rw [h,List.drop_eq_getElem_cons hi,hw,frun,cut_B,hc]
 dsimp only
 by_cases hm:k∈K
 ·rw [if_pos hm]
 ·rw [if_neg hm,hk.resolve_left hm]
theorem left_end {ws:List Tx} {x:Slip} {K:List Tx} (h:LeftF ws ws.length x K):frun (Slip.zero,[]) ws=some (x,K):=by
 unfold LeftF at h
 rw [h,List.drop_length]
 rfl
theorem first_fin {l:Tx} {ws:List Tx} (hc:cuts 32 l=jobW::ws) {x:Slip} {K:List Tx} (h:frun (Slip.zero,[]) ws=some (x,K)) (hK:KeysOk K) :
  first? l=if key2 userK∈K.map key2∧key2 nodesK∈K.map key2∧key2 wallK∈K.map key2 then some x else none:=by
 unfold first?
 rw [hc]
 dsimp only
 rw [if_pos rfl,h]
 dsimp only
 simp only [key_has hK (show userK∈five by decide),key_has hK (show nodesK∈five by decide),key_has hK (show wallK∈five by decide)]
theorem first_non {l:Tx} {ws:List Tx} (hc:cuts 32 l=jobW::ws) (h:frun (Slip.zero,[]) ws=none):first? l=none:=by
 unfold first?
 rw [hc]
 dsimp only
 rw [if_pos rfl,h]
theorem first_noj {l j:Tx} {ws:List Tx} (hc:cuts 32 l=j::ws) (h:j≠jobW):first? l=none:=by
 unfold first?
 rw [hc]
 dsimp only
 rw [if_neg h]
theorem mapM_snoc {α β:Type} (f:α→Option β):∀ (l:List α) (a:α),(l++[a]).mapM f=match l.mapM f,f a with
  | some A,some b=>some (A++[b])
  | _,_=>none
 | [],a=>by
  cases h:f a <;> simp [h]
 | x::l,a=>by
  rw [List.cons_append,List.mapM_cons,mapM_snoc f l a,List.mapM_cons]
  cases f x with
  | none=>rfl
  | some y =>
   cases l.mapM f with
   | none=>rfl
   | some A =>
    cases f a with
    | none=>rfl
    | some b=>rfl
end Go.Proofs.YtekcjfdllclphaaGreatDoor.sp
end
section
namespace Go.Proofs.YtekcjfdllclphaaGreatDoor.gn
open Go.RowKit
open Go.Proofs.YtekcjfdllclphaaGreatDoor.un
open Go.Proofs.YtekcjfdllclphaaGreatDoor.di
open Go.Proofs.YtekcjfdllclphaaGreatDoor.sp (cuts cuts_one cuts_app cuts_ne)
structure CS (c:UInt8) (l:Tx) (i f:Nat) (S:List Tx):Prop where
 fi:f≤i
 il:i≤l.length
 sp:cuts c l=S++cuts c (l.drop f)
 no:c ∉ (l.drop f).take (i - f)
theorem CS.start (c:UInt8) (l:Tx):CS c l 0 0 []:=⟨Nat.le_refl _,Nat.zero_le _,rfl,by simp⟩
theorem CS.fin {c:UInt8} {l:Tx} {f:Nat} {S:List Tx} (h:CS c l l.length f S):cuts c l=S++[l.drop f]:=by
 have hn:=h.no
 rw [List.take_of_length_le (by rw [List.length_drop];exact Nat.le_refl _)] at hn
 rw [h.sp,cuts_one c _ hn]
theorem CS.split {l:Tx} {i f:Nat} (hfi:f≤i) (hi:i < l.length):l.drop f=(l.drop f).take (i - f)++l[i]::l.drop (i+1):=by
 have h1:=List.take_append_drop (i - f) (l.drop f)
 rw [List.drop_drop,show f+(i - f)=i by omega,List.drop_eq_getElem_cons hi] at h1
 exact h1.symm
theorem CS.hit {c:UInt8} {l:Tx} {i f:Nat} {S:List Tx} (h:CS c l i f S) (hi:i < l.length) (hb:l[i]=c):CS c l (i+1) (i+1) (S++[(l.drop f).take (i - f)]):=by
 refine ⟨Nat.le_refl _,by omega,?_,by simp⟩
 have hs:=CS.split h.fi hi
 rw [hb] at hs
 rw [h.sp,hs,cuts_app c _ _ h.no,List.append_assoc]
 rw [←hs]
 rfl
theorem CS.miss {c:UInt8} {l:Tx} {i f:Nat} {S:List Tx} (h:CS c l i f S) (hi:i < l.length) (hb:l[i]≠c):CS c l (i+1) f S:=by
 have hf:=h.fi
 refine ⟨by omega,by omega,h.sp,?_⟩
 have hs:=CS.split h.fi hi
 have ht:(l.drop f).take (i+1 - f)=(l.drop f).take (i - f)++[l[i]]:=by
  rw [show i+1 - f=(i - f)+1 by omega,List.take_add_one,List.getElem?_drop,show f+(i - f)=i by omega,List.getElem?_eq_getElem hi]
  rfl
 rw [ht]
 intro hm
 rcases List.mem_append.1 hm with hm | hm
 ·exact h.no hm
 ·simp only [List.mem_singleton] at hm
  exact hb hm.symm
set_option maxRecDepth 100000 in
set_option maxHeartbeats 6400000 in
theorem Split_any (c:UInt8) (l:Tx) (hl:l.length≤100000) (w:World):Calls Tryz.prog 20 #[.string (str l),.int .u8 (c.toNat:Int)] w fun e w'=>∃ v,e=.returned v∧Wds w.heap.size w' v (cuts c l)∧Below w.heap.size w w':=by
 have hz:=str_size l
 have hz0:(str l).size≤100000:=by omega
 have HZ:=Lib.hid hz
 have HS0:=Lib.hid (CS.start c l)
 obtain ⟨d,hd⟩:∃ d:Int,(c.toNat:Int)=d:=⟨_,rfl⟩
 rw [hd]
 have HD:=Lib.hid hd
 clear hz hd
 go_enter Tryz.func20,Tryz.ntmps20
 go_wp2
 go_loopw [5,6,7] (fun s3 s4 s5 wr=>∃ (i f:Nat) (S:List Tx) (A:Option Addr) (q n:Nat),s3=.slice A n q∧s4=.int .i64 f∧s5=.int .i64 i∧i≤(str l).size+1∧f≤i∧n≤i∧Aside (Ss wr w.heap.size (.slice A n q) S∧n=S.length∧Below w.heap.size w wr∧(i≤l.length→CS c l i f S)∧(l.length < i→S=cuts c l))) (fun _ _ s5 _=>(str l).size+1 - (intOf s5).toNat)
 case atStart=>exact ⟨0,0,[],none,0,0,rfl,rfl,rfl,by omega,Nat.le_refl _,Nat.le_refl _,Ss_nil _ _,rfl,Below.refl _ _,fun _=>HS0.out,fun h=>by omega⟩
 case round =>
  obtain ⟨i,f,S,A,q,n,rfl,rfl,rfl,hi,hf,hn,hss,hnl,hbw,hr1,hr2⟩:=hrel
  have HSS:=Lib.hid hss
  have HNL:=Lib.hid hnl
  have HBW:=Lib.hid hbw
  have HR1:=Lib.hid hr1
  have HR2:=Lib.hid hr2
  clear hss hnl hbw hr1 hr2
  by_cases h1:i < (str l).size
  ·have hil:i < l.length:=by rw [←HZ.out];exact h1
   have HWS:=Lib.hid (HR1.out (by omega))
   have hge:=str_at l i h1
   by_cases hb:l[i]=c
   ·have q1:((((str l)[i]'h1).toNat:Int) == d)=true:=by rw [hge,hb,HD.out];exact beq_self_eq_true _
    have HH:=Lib.hid (HWS.out.hit hil hb)
    have hsl:=sl_mid l (f:Int) (i:Int) f (i - f) rfl (by omega) (by omega)
    have HXL:=Lib.hid (show ((l.drop f).take (i - f)).length≤maxLen by rw [List.length_take,List.length_drop];unfold maxLen;omega)
    obtain ⟨x,hx⟩:∃ x,(l.drop f).take (i - f)=x:=⟨_,rfl⟩
    rw [hx] at hsl HH HXL
    clear hx hb hge
    go_wp2_with (at_builtin;refine wpList_append_strs rfl _ _ rfl w.heap.size _ _ S [x] rfl (HSS.out.kept ((Below.refl _ wr).alloc (Nat.le_refl _) (.cells #[.string (str x)] 9))) rfl ⟨strs_new wr x HXL.out,fun n c e=>by cases e⟩ (by have:=HNL.out;simp;omega) (by have:=HBW.out.size;simp;omega) ?_;intro A2 c2 n2 w2 hn2 hs2 hg2 ha2;have HS2:=Lib.hid hs2;have HN2:=Lib.hid hn2;have HG2:=Lib.hid hg2;clear hn2 hs2 hg2 ha2)
    go_roundw
    case rel =>
     refine ⟨i+1,i+1,S++[x],A2,c2,n2,rfl,by go_num,by go_num,by omega,Nat.le_refl _,by have:=HNL.out;have:=HN2.out;simp at this;omega,HS2.out,by rw [HN2.out,List.length_append],?_,fun _=>HH.out,fun h=>by omega⟩
     exact (HBW.out.alloc HBW.out.size _).grown HG2.out (Nat.le_trans HBW.out.size (by simp)) (fun j hj=>(World.ownsRow.lt HSS.out j hj).1)
    case measure=>simp [intOf];omega
   ·have q1:((((str l)[i]'h1).toNat:Int) == d)=false:=by
     rw [hge,beq_eq_false_iff_ne]
     intro e
     exact hb (UInt8.toNat_inj.1 (by have:((l[i]'hil).toNat:Int)=(c.toNat:Int):=e.trans HD.out.symm;omega))
    have HH:=Lib.hid (HWS.out.miss hil hb)
    clear hb hge
    go_wp2
    go_roundw
    case rel=>exact ⟨i+1,f,S,A,q,n,rfl,rfl,by go_num,by omega,by omega,by omega,HSS.out,HNL.out,HBW.out,fun _=>HH.out,fun h=>by omega⟩
    case measure=>simp [intOf];omega
  ·by_cases h2:i=(str l).size
   ·subst h2
    have hel:(str l).size=l.length:=HZ.out
    have HWS:=Lib.hid (show CS c l l.length f S from by have:=HR1.out (by omega);rwa [hel] at this)
    have HFI:=Lib.hid HWS.out.fin
    have hfl:=HWS.out.fi
    have hsl:=sl_from l (f:Int) f rfl hfl
    have HXL:=Lib.hid (show (l.drop f).length≤maxLen by rw [List.length_drop];unfold maxLen;omega)
    obtain ⟨x,hx⟩:∃ x,l.drop f=x:=⟨_,rfl⟩
    rw [hx] at hsl HFI HXL
    clear hx hfl
    have HEL:=Lib.hid hel
    clear hel
    go_wp2_with (at_builtin;refine wpList_append_strs rfl _ _ rfl w.heap.size _ _ S [x] rfl (HSS.out.kept ((Below.refl _ wr).alloc (Nat.le_refl _) (.cells #[.string (str x)] 9))) rfl ⟨strs_new wr x HXL.out,fun n c e=>by cases e⟩ (by have:=HNL.out;simp;omega) (by have:=HBW.out.size;simp;omega) ?_;intro A2 c2 n2 w2 hn2 hs2 hg2 ha2;have HS2:=Lib.hid hs2;have HN2:=Lib.hid hn2;have HG2:=Lib.hid hg2;clear hn2 hs2 hg2 ha2)
    go_roundw
    case rel =>
     refine ⟨(str l).size+1,f,S++[x],A2,c2,n2,rfl,rfl,by go_num,Nat.le_refl _,by omega,by have:=HNL.out;have:=HN2.out;simp at this;omega,HS2.out,by rw [HN2.out,List.length_append],?_,fun h=>by have:=HEL.out;omega,fun _=>HFI.out.symm⟩
     exact (HBW.out.alloc HBW.out.size _).grown HG2.out (Nat.le_trans HBW.out.size (by simp)) (fun j hj=>(World.ownsRow.lt HSS.out j hj).1)
    case measure=>simp [intOf]
   ·obtain rfl:i=(str l).size+1:=by omega
    have HSW:=Lib.hid (HR2.out (by have:=HZ.out;omega))
    go_wp2
    go_ret
    refine ⟨_,rfl,?_,HBW.out⟩
    have hs:=HSS.out
    rw [HSW.out] at hs
    exact hs.wds (cuts_ne c l)
end Go.Proofs.YtekcjfdllclphaaGreatDoor.gn
end
section
namespace Go.Proofs.YtekcjfdllclphaaGreatDoor.gn
open Go.RowKit
open Go.Proofs.YtekcjfdllclphaaGreatDoor.un
open Go.Proofs.YtekcjfdllclphaaGreatDoor.di
open Go.Proofs.YtekcjfdllclphaaGreatDoor.sp (cutB cutB_at cutB_none key2 within?)
def cutV (c:UInt8) (l:Tx):Value:=match cutB c l with
 | some f=>.tuple #[.string (str f.1),.string (str f.2),.bool true]
 | none=>.tuple #[.string (str l),.string ({ data:=#[] }:ByteArray),.bool false]
theorem not_take {c:UInt8} {l:Tx} {k:Nat} (h:c ∉ l.take k) (hk:k < l.length) (hb:l[k]≠c):c ∉ l.take (k+1):=by
 rw [List.take_add_one,List.getElem?_eq_getElem hk]
 intro hm
 rcases List.mem_append.1 hm with hm | hm
 ·exact h hm
 ·simp at hm;exact hb hm.symm
set_option maxRecDepth 100000 in
set_option maxHeartbeats 4000000 in
theorem dcut_any (c:UInt8) (l:Tx) (hl:l.length≤100000) (w:World):Calls Tryz.prog 71 #[.string (str l),.int .u8 (c.toNat:Int)] w (Told (cutV c l) w):=by
 have hz:=str_size l
 have hz0:(str l).size≤100000:=by omega
 have HZ:=Lib.hid hz
 obtain ⟨d,hd⟩:∃ d:Int,(c.toNat:Int)=d:=⟨_,rfl⟩
 rw [hd]
 have HD:=Lib.hid hd
 clear hz hd
 go_enter Tryz.func71,Tryz.ntmps71
 go_wp2
 go_loopw [7] (fun s7 wr=>∃ k:Nat,s7=.int .i64 (k:Int)∧k≤(str l).size∧Aside (c ∉ l.take k∧w=wr)) (fun s7 _=>(str l).size - (intOf s7).toNat)
 case atStart=>exact ⟨0,rfl,Nat.zero_le _,by show c ∉ l.take 0;simp,rfl⟩
 case round =>
  obtain ⟨k,rfl,hk,hnx,hw⟩:=hrel
  have HX:=Lib.hid (show c ∉ l.take k from hnx)
  have hw:w=wr:=hw
  subst hw
  clear hnx
  by_cases hkn:k < (str l).size
  ·have hil:k < l.length:=by rw [←HZ.out];exact hkn
   have hge:=str_at l k hkn
   by_cases hb:l[k]=c
   ·have q1:((((str l)[k]'hkn).toNat:Int) == d)=true:=by rw [hge,hb,HD.out];exact beq_self_eq_true _
    have HC:=Lib.hid (show cutB c l=some (l.take k,l.drop (k+1)) by
     have e:l=l.take k++c::l.drop (k+1):=by
      rw [←hb,← List.drop_eq_getElem_cons hil,List.take_append_drop]
     have:=cutB_at c (l.take k) (l.drop (k+1)) HX.out
     rw [←e] at this
     exact this)
    have r1:=fun W=>sl_upto l (k:Int) k rfl (by omega) W
    have r2:=fun W=>sl_from l ((k:Int)+1) (k+1) (by omega) (by omega) W
    clear hb hge
    go_wp2_with (go_quiet (fail))
    go_ret3
    exact ⟨by unfold cutV;rw [HC.out];rfl,Joins.below_draws _ _ _⟩
   ·have q1:((((str l)[k]'hkn).toNat:Int) == d)=false:=by
     rw [hge,beq_eq_false_iff_ne]
     intro e
     exact hb (UInt8.toNat_inj.1 (by have:((l[k]'hil).toNat:Int)=(c.toNat:Int):=e.trans HD.out.symm;omega))
    have HNX:=Lib.hid (not_take HX.out hil hb)
    clear hb hge
    go_wp2
    go_roundw
    case rel=>exact ⟨k+1,by go_num,by omega,HNX.out,trivial⟩
    case measure=>simp [intOf];omega
  ·obtain rfl:k=(str l).size:=by omega
   have HC:=Lib.hid (show cutB c l=none from cutB_none c l (by have:=HX.out;rwa [List.take_of_length_le (by rw [HZ.out];exact Nat.le_refl _)] at this))
   go_wp2
   go_ret3
   exact ⟨by unfold cutV;rw [HC.out];rfl,Below.refl _ _⟩
set_option maxRecDepth 100000 in
theorem key2_any (l:Tx) (hl:l.length≤100000) (w:World):Calls Tryz.prog 72 #[.string (str l)] w fun e w'=>e=.returned (.int .u8 ((key2 l).toNat:Int))∧w=w':=by
 cases l with
 | nil =>
  have hz:(str []).size=0:=rfl
  have HK:=Lib.hid (show ((key2 []).toNat:Int)=63 from rfl)
  go_enter Tryz.func72,Tryz.ntmps72
  go_wp2
  go_ret
  exact ⟨by rw [HK.out];rfl,rfl⟩
 | cons b r =>
  have hz:=str_size (b::r)
  have hz0:0 < (str (b::r)).size:=by rw [hz];simp
  have hz1:(str (b::r)).size≤100000:=by rw [hz];exact hl
  have hge:=str_at (b::r) 0 hz0
  have HG:=Lib.hid (show ((((str (b::r))[0]'hz0).toNat:Int))=((key2 (b::r)).toNat:Int) by rw [hge];rfl)
  clear hz hge hl
  go_enter Tryz.func72,Tryz.ntmps72
  go_wp2
  go_ret
  exact ⟨by rw [←HG.out];rfl,rfl⟩
def WiT (s:Tx) (a b:Nat) (w:World) (e:Ending) (w':World):Prop:=∃ n:Int,e=.returned (.tuple #[.int .i64 n,.bool (within? s a b).isSome])∧(∀ m:Nat,within? s a b=some m→n=(m:Int))∧(-1≤n∧n≤9223372036854775807)∧w=w'
theorem num_bound {s:Tx} {n:Nat} (h:num? s=some n):n≤top:=(num_iff.1 h).1
set_option maxRecDepth 100000 in
theorem dwithin_any (s:Tx) (hs:s.length≤100000) (a b:Nat) (w:World):Calls Tryz.prog 73 #[.string (str s),.int .i64 (a:Int),.int .i64 (b:Int)] w (WiT s a b w):=by
 have HN:=Lib.hid (fun W=>dnumber_any s (by omega) W)
 cases hn:num? s with
 | none =>
  have HW:=Lib.hid (show within? s a b=none by unfold within?;rw [hn])
  rw [hn,qv_none,qe_none] at HN
  clear hn
  go_enter Tryz.func73,Tryz.ntmps73
  go_wp2_with (go_at_call 23;((with_reducible refine (HN.out _).mono ?_);rintro e w1 ⟨rfl,rfl⟩))
  go_ret2
  exact ⟨0,by rw [HW.out];rfl,(fun m h=>by rw [HW.out] at h;cases h),by omega,rfl⟩
 | some n =>
  have HB:=Lib.hid (num_bound hn)
  rw [hn,qv_some,qe_some] at HN
  by_cases ha:a≤n
  ·by_cases hb:n≤b
   ·have HW:=Lib.hid (show within? s a b=some n by unfold within?;rw [hn];dsimp only;rw [if_pos ⟨ha,hb⟩])
    have d1:(a:Int)≤(n:Int):=by omega
    have d2:(n:Int)≤(b:Int):=by omega
    clear hn ha hb
    go_enter Tryz.func73,Tryz.ntmps73
    go_wp2_with (go_at_call 23;((with_reducible refine (HN.out _).mono ?_);rintro e w1 ⟨rfl,rfl⟩))
    go_ret2
    exact ⟨(n:Int),by rw [HW.out];rfl,(fun m h=>by rw [HW.out] at h;cases h;rfl),by have:=HB.out;unfold top at this;omega,rfl⟩
   ·have HW:=Lib.hid (show within? s a b=none by unfold within?;rw [hn];dsimp only;rw [if_neg (fun h=>hb h.2)])
    have d1:(a:Int)≤(n:Int):=by omega
    have HNB:=Lib.hid (show decide (n≤b)=false from decide_eq_false hb)
    have d2:¬ (n:Int)≤(b:Int):=by omega
    clear hn ha hb
    go_enter Tryz.func73,Tryz.ntmps73
    go_wp2_with (go_at_call 23;((with_reducible refine (HN.out _).mono ?_);rintro e w1 ⟨rfl,rfl⟩))
    go_ret2
    exact ⟨(n:Int),by rw [HW.out];show Ending.returned (.tuple #[.int .i64 (n:Int),.bool (decide (n≤b))])=_;rw [HNB.out];rfl,(fun m h=>by rw [HW.out] at h;cases h),by have:=HB.out;unfold top at this;omega,rfl⟩
  ·have HW:=Lib.hid (show within? s a b=none by unfold within?;rw [hn];dsimp only;rw [if_neg (fun h=>ha h.1)])
   have d1:¬ (a:Int)≤(n:Int):=by omega
   clear hn ha
   go_enter Tryz.func73,Tryz.ntmps73
   go_wp2_with (go_at_call 23;((with_reducible refine (HN.out _).mono ?_);rintro e w1 ⟨rfl,rfl⟩))
   go_ret2
   exact ⟨(n:Int),by rw [HW.out];rfl,(fun m h=>by rw [HW.out] at h;cases h),by have:=HB.out;unfold top at this;omega,rfl⟩
end Go.Proofs.YtekcjfdllclphaaGreatDoor.gn
end
