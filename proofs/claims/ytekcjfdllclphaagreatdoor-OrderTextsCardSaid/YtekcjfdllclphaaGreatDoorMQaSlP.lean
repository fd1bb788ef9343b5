/- Slips, plain: the whole text is read again; lines between, and another order, change nothing. (Written ahead of the code.) -/
import Derived.Test.YtekcjfdllclphaaGreatDoorMQaSlO
import Derived.Test.YtekcjfdllclphaaGreatDoorMQaSlM
import Derived.Test.YtekcjfdllclphaaGreatDoorMQaUnM
import Derived.Deep.LoopGhost
import Derived.Test.YtekcjfdllclphaaGreatDoorRows
import Derived.ProofKit
import Derived.LaidMore
import Derived.Lay
import Derived.Stop.Joined
import Derived.Stop.LaidErr
import Derived.Lib.LaidTab
import Derived.HandedShaped
import Derived.Shelf.Vars
section
set_option linter.unusedVariables false
namespace Go.Proofs.YtekcjfdllclphaaGreatDoor.sp
open Go.Proofs.YtekcjfdllclphaaGreatDoor.un
open Go.Proofs.YtekcjfdllclphaaGreatDoor.di
theorem small_kinds (x:Slip) (hm:∀ d∈x.make,d.kind=4):((dirsS x).filter fun d=>decide (d.kind≤3)).map (·.kind)=(if 0 < x.cap then [1] else [])++(if 0 < x.inn then [2] else [])++(if 0 < x.out then [3] else []):=by
 have h1:x.make.filter (fun d=>decide (d.kind≤3))=[]:=List.filter_eq_nil_iff.2 fun d hd=>by simp [hm d hd]
 have h2:(x.drop.map fun n=>(⟨5,n,[],0,false⟩:Dir)).filter (fun d=>decide (d.kind≤3))=[]:=List.filter_eq_nil_iff.2 fun d hd=>by
  obtain ⟨n,_,rfl⟩:=List.mem_map.1 hd
  simp
 have h3:(x.use.map fun n=>(⟨6,n,[],0,false⟩:Dir)).filter (fun d=>decide (d.kind≤3))=[]:=List.filter_eq_nil_iff.2 fun d hd=>by
  obtain ⟨n,_,rfl⟩:=List.mem_map.1 hd
  simp
 unfold dirsS
 rw [List.filter_append,List.filter_append,List.filter_append,List.filter_append,List.filter_append,h1,h2,h3]
 split <;> split <;> split <;> rfl
theorem small_nodup (x:Slip) (hm:∀ d∈x.make,d.kind=4):(((dirsS x).filter fun d=>decide (d.kind≤3)).map (·.kind)).Nodup:=by
 rw [small_kinds x hm]
 split <;> split <;> split <;> decide
theorem once_dirs {x:Slip} (h:Ok x):Once [] (dirsS x):=once_of _ _ (small_nodup x fun d hd=>(h.make d hd).1) (fun _ _ _=>List.not_mem_nil)
theorem no_join {c b:UInt8} (hc:b≠c):∀ (L:List Tx),(∀ w∈L,b ∉ w)→b ∉ joinC c L
 | [],_=>by simp [joinC]
 | [a],h=>h a (by simp)
 | a::d::r,h=>by
  rw [joinC_cons c a (by simp)]
  intro hm
  rcases List.mem_append.1 hm with hm | hm
  ·exact h a (by simp) hm
  rcases List.mem_cons.1 hm with e | hm
  ·exact hc e
  ·exact no_join hc (d::r) (fun w hw=>h w (by simp [hw])) hm
theorem dtx_lf {d:Dir} (h:chk d=true):(10:UInt8) ∉ dtx d:=fun hm=>by
 obtain ⟨i,hi,e⟩:=List.getElem_of_mem hm
 exact (neat_at (dtx d) 0 (text_neat h 0) i hi).1 e
theorem line1_lf {x:Slip} (h:Ok x):(10:UInt8) ∉ line1 x:=by
 unfold line1
 refine no_join (by decide) _ fun w hw=>?_
 rcases List.mem_cons.1 hw with rfl | hw
 ·decide
 ·obtain ⟨f,hf,rfl⟩:=List.mem_map.1 hw
  exact (fsS_mem h hf).1.2
theorem dep_len (d:Int × Bool):(depT d).length≤17:=by
 have:=txt_len d.1
 unfold depT
 rw [List.length_append,List.length_cons]
 have:(if d.2=true then anyW else okW).length≤3:=by split <;> decide
 omega
theorem line1_len {x:Slip} (h:Ok x):(line1 x).length≤1206:=by
 have hn:=name_len h.user
 have hl:=joinC_len 32 (jobW::(fsS x).map wtx) 200 fun w hw=>by
  rcases List.mem_cons.1 hw with rfl | hw
  ·decide
  obtain ⟨f,hf,rfl⟩:=List.mem_map.1 hw
  unfold wtx
  rw [List.length_append,List.length_cons]
  unfold fsS at hf
  rcases List.mem_append.1 hf with hf | hf
  ·rcases List.mem_append.1 hf with hf | hf
   ·simp only [List.mem_cons,List.not_mem_nil,or_false] at hf
    rcases hf with rfl | rfl | rfl
    ·show userK.length+_≤200
     simp only [userK,List.length_cons,List.length_nil]
     omega
    ·have:=txt_len x.nodes
     simp only [nodesK,List.length_cons,List.length_nil]
     omega
    ·have:=txt_len x.wall
     simp only [wallK,List.length_cons,List.length_nil]
     omega
   ·split at hf
    ·simp only [List.mem_cons,List.not_mem_nil,or_false] at hf
     subst hf
     have:=txt_len x.qos
     simp only [qosK,List.length_cons,List.length_nil]
     omega
    ·simp at hf
  ·split at hf
   ·simp at hf
   ·simp only [List.mem_cons,List.not_mem_nil,or_false] at hf
    subst hf
    have h1:=joinC_len 44 (x.after.map depT) 17 fun w hw=>by
     obtain ⟨d,_,rfl⟩:=List.mem_map.1 hw
     exact dep_len d
    rw [List.length_map] at h1
    have h2:=h.after.1
    simp only [afterK,List.length_cons,List.length_nil]
    omega
 have h5:(fsS x).length≤5:=by
  unfold fsS
  split <;> split <;> simp
 rw [List.length_cons,List.length_map] at hl
 unfold line1
 omega
theorem dirs_count {x:Slip} (h:Ok x):(dirsS x).length≤15:=by
 have h1:=h.makeN.1
 have h2:=h.drop.1
 have h3:=h.use.1
 rw [List.length_map] at h1
 unfold dirsS
 simp only [List.length_append,List.length_map]
 split <;> split <;> split <;> simp <;> omega
theorem join_two (c:UInt8) (a:Tx) (L:List Tx) (m:Nat) (h:∀ w∈L,w.length≤m):(joinC c (a::L)).length≤a.length+1+L.length * (m+1):=by
 cases L with
 | nil =>
  show a.length≤_
  omega
 | cons b r =>
  have:=joinC_len c (b::r) m h
  rw [joinC_cons c a (by simp),List.length_append,List.length_cons]
  omega
theorem sread_lines {x:Slip} (h:Ok x) (L:List Tx) (hf:(dirLines L).foldl put (head1 x)=x) (ho:Once [] (dirLines L)) (h10:∀ l∈L,(10:UInt8) ∉ l) (he:∀ l∈L,isD l=true→lerr l=0) (hl:(joinC 10 (line1 x::L)).length≤10000):sread (joinC 10 (line1 x::L))=(x,0,0):=by
 obtain ⟨s',hr⟩:=lrun_lines L (head1 x) [] 2 he ho
 unfold sread
 rw [if_neg (by omega),cuts_join 10 _ (by simp) (fun w hw=>by
  rcases List.mem_cons.1 hw with rfl | hw
  ·exact line1_lf h
  ·exact h10 w hw)]
 dsimp only
 rw [first_read h]
 dsimp only
 rw [hr]
 dsimp only
 rw [hf,if_pos ((chkS_iff x).2 h)]
theorem txtS_len {x:Slip} (h:Ok x):(txtS x).length≤5812:=by
 have h1:=join_two 10 (line1 x) ((dirsS x).map dtx) 306 fun w hw=>by
  obtain ⟨d,hd,rfl⟩:=List.mem_map.1 hw
  exact (made_text (dirs_mem h hd)).len
 have h2:=line1_len h
 have h3:=dirs_count h
 rw [List.length_map] at h1
 unfold txtS
 omega
theorem dirs_lines {x:Slip} (h:Ok x) {l:Tx} (hl:l∈(dirsS x).map dtx):(10:UInt8) ∉ l∧(isD l=true→lerr l=0):=by
 obtain ⟨d,hd,rfl⟩:=List.mem_map.1 hl
 exact ⟨dtx_lf (dirs_mem h hd),fun _=>(dtx_line (dirs_mem h hd)).2.1⟩
theorem read_text {x:Slip} (h:Ok x):sread (txtS x)=(x,0,0):=by
 have hd:=dirLines_dtx (dirsS x) fun d hd=>dirs_mem h hd
 refine sread_lines h _ (by rw [hd];exact fold_dirs h) (by rw [hd];exact once_dirs h) (fun l hl=>(dirs_lines h hl).1) (fun l hl=>(dirs_lines h hl).2) ?_
 have:=txtS_len h
 unfold txtS at this
 omega
end Go.Proofs.YtekcjfdllclphaaGreatDoor.sp
end
section
set_option linter.unusedVariables false
namespace Go.Proofs.YtekcjfdllclphaaGreatDoor.gn
open Go.RowKit
open Go.Proofs.YtekcjfdllclphaaGreatDoor.un
open Go.Proofs.YtekcjfdllclphaaGreatDoor.di
structure LaidD (w:World):Prop where
 u:LaidU w
 max:∃ m:Int,w.cell? ⟨0,0,none⟩=some (.int .i64 m)
theorem LaidD.next {w w':World} (h:LaidD w) (hb:Below w.heap.size w w'):LaidD w':=by
 refine ⟨h.u.next hb,?_⟩
 obtain ⟨m,hm⟩:=h.max
 refine ⟨m,(Below.cell hb ?_).trans hm⟩
 by_cases hl:0 < w.heap.size
 ·exact hl
 ·have:w.heap[0]?=none:=Array.getElem?_eq_none (by omega)
  simp [World.cell?,this] at hm
def LaidB (B:Nat) (w:World):Prop:=∀ w',Below B w w'→LaidD w'
theorem LaidD.base {w:World} (h:LaidD w):LaidB w.heap.size w:=fun w' hb=>h.next hb
theorem LaidB.next {B:Nat} {w w':World} (h:LaidB B w) (hb:Below B w w'):LaidB B w':=fun w2 h2=>h w2 (hb.trans h2)
theorem LaidB.here {B:Nat} {w:World} (h:LaidB B w):LaidD w:=h w (Below.refl _ _)
theorem But.low {R B:Nat} {w w':World} (h:But R w w') (hR:B≤R) (hB:B≤w.heap.size):Below B w w':=(Below.refl B w).grown h hB (fun j hj=>by cases hj;exact hR)
def Prts (w:World) (p o:Nat) (ws:List Tx):Prop:=p < w.heap.size∧∀ (i:Nat) (x:Tx),ws[i]?=some x→w.cell? ⟨p,o+i,none⟩=some (.string (str x))
theorem Prts.next {w w':World} {p o:Nat} {ws:List Tx} (h:Prts w p o ws) (hb:Below w.heap.size w w'):Prts w' p o ws :=
 ⟨Nat.lt_of_lt_of_le h.1 hb.size,fun i x hx=>(Below.cell hb h.1).trans (h.2 i x hx)⟩
theorem Prts.but {R:Nat} {w w':World} {p o:Nat} {ws:List Tx} (h:Prts w p o ws) (hb:But R w w') (hne:p≠R):Prts w' p o ws :=
 ⟨Nat.lt_of_lt_of_le h.1 hb.size,fun i x hx=>hb.cell (h.2 i x hx) hne⟩
theorem Prts.drop {w:World} {p o:Nat} {ws:List Tx} (h:Prts w p o ws) (n:Nat):Prts w p (o+n) (ws.drop n) :=
 ⟨h.1,fun i x hx=>by
  have:=h.2 (n+i) x (by rw [List.getElem?_drop] at hx;exact hx)
  rw [Nat.add_assoc]
  exact this⟩
theorem cut_any (x:Tx) (hx:x.length≤100000) (w:World) (hL:LaidD w) :
  Calls Tryz.prog 16 #[.string (str x),.string { data:=#[61] }] w (Told (.tuple #[.string (str (fld x).1),.string (str (fld x).2),.bool (cut x).isSome]) w):=by
 obtain ⟨m,hm⟩:=hL.max
 refine (Any.strings_Cut layCut (str x) (str [61]) m w (by rw [str_size];omega) hm).mono ?_
 rintro e w' ⟨he,n,hw⟩
 have e1:(str x).data.toList=x:=by simp [str]
 have e2:(str [61]).data.toList=[61]:=rfl
 rw [e1,e2,cut_lib] at he
 exact ⟨he,by rw [hw];exact Joins.below_draws _ _ _⟩
theorem split_any_d (l:Tx) (hl:l.length≤100000) (w:World) (hL:LaidD w) :
  Calls Tryz.prog 107 #[.string (str l),.string { data:=#[32] }] w fun e w'=>e=.returned (.slice (some ⟨w.heap.size,0,none⟩) (words l).length (words l).length)∧Prts w' w.heap.size 0 (words l)∧Below w.heap.size w w':=by
 obtain ⟨m,hm⟩:=hL.max
 refine (Any.strings_Split laySplit (by kernel_rfl) (str l) (str [32]) m w (by rw [str_size];omega) hm (by decide)).mono ?_
 rintro e w' ⟨he,hw⟩
 rw [countB_words] at he
 rw [splitB_words] at hw
 refine ⟨he,⟨by rw [hw];simp,fun i x hx=>?_⟩,by rw [hw];exact (Below.refl _ _).alloc (Nat.le_refl _) _⟩
 rw [hw,World.cell?_alloc_mark]
 simp [hx]
def fV (f:Tx × Bool):Value:=.agg #[.string (str f.1),.bool f.2]
def fget (F:List (Tx × Bool)) (j:Tx):Option Value:=F.foldl (fun acc f=>if j=f.1 then some (fV f) else acc) none
theorem fget_snoc (F:List (Tx × Bool)) (f:Tx × Bool) (j:Tx):fget (F++[f]) j=if j=f.1 then some (fV f) else fget F j:=by
 unfold fget
 rw [List.foldl_append]
 rfl
theorem fget_all {k:Nat} (hk:1≤k∧k≤6) (j:Tx):fget (fldL k) j=if has k j=true then some (fV (j,decide (j=accK))) else none:=by
 have c1:(capK=accK)=False:=by simp;decide
 have c2:(sizeK=accK)=False:=by simp;decide
 have c3:(nameK=accK)=False:=by simp;decide
 have c4:(poolK=accK)=False:=by simp;decide
 by_cases h1:j=capK
 ·subst h1
  rcases six hk with rfl | rfl | rfl | rfl | rfl | rfl <;> rfl
 by_cases h2:j=sizeK
 ·subst h2
  rcases six hk with rfl | rfl | rfl | rfl | rfl | rfl <;> rfl
 by_cases h3:j=nameK
 ·subst h3
  rcases six hk with rfl | rfl | rfl | rfl | rfl | rfl <;> rfl
 by_cases h4:j=poolK
 ·subst h4
  rcases six hk with rfl | rfl | rfl | rfl | rfl | rfl <;> rfl
 by_cases h5:j=accK
 ·subst h5
  rcases six hk with rfl | rfl | rfl | rfl | rfl | rfl <;> rfl
 rcases six hk with rfl | rfl | rfl | rfl | rfl | rfl <;> simp [fget,has,fldL,h1,h2,h3,h4,h5]
theorem fld_opt {k:Nat} {f:Tx × Bool} (h:f∈fldL k):f.2=decide (f.1=accK)∧has k f.1=true:=by
 refine ⟨?_,by unfold has;exact List.contains_iff_mem.2 (List.mem_map.2 ⟨f,h,rfl⟩)⟩
 unfold fldL at h
 split at h <;> simp at h
 ·rcases h with rfl | rfl <;> rfl
 ·subst h;rfl
 ·subst h;rfl
 ·rcases h with rfl | rfl | rfl | rfl <;> rfl
 ·subst h;rfl
 ·subst h;rfl
theorem has_mem {k:Nat} {j:Tx} (h:has k j=true):(j,decide (j=accK))∈fldL k:=by
 unfold has at h
 obtain ⟨f,hf,rfl⟩:=List.mem_map.1 (List.contains_iff_mem.1 h)
 rw [←(fld_opt hf).1]
 exact hf
structure Left (w:World) (m k:Nat) (fs:List Fl) (L:List (Tx × Value)):Prop where
 m:MapV w m L
 get:∀ j,fi.get j L=if has k j=true∧j ∉ keys fs then some (fV (j,decide (j=accK))) else none
theorem Left.next {w w':World} {m k:Nat} {fs:List Fl} {L:List (Tx × Value)} (h:Left w m k fs L) (hb:Below w.heap.size w w'):Left w' m k fs L:=⟨h.m.next hb,h.get⟩
theorem Left.del {w w':World} {m k:Nat} {fs:List Fl} {L:List (Tx × Value)} (h:Left w m k fs L) {f:Fl} (hd:MapV w' m (fi.del f.1 L)):Left w' m k (fs++[f]) (fi.del f.1 L):=by
 refine ⟨hd,fun j=>?_⟩
 rw [get_del,h.get,keys_snoc]
 by_cases hj:j=f.1
 ·rw [if_pos hj,if_neg]
  rintro ⟨_,hn⟩
  exact hn (by rw [hj];simp)
 ·rw [if_neg hj]
  have:j ∉ keys fs++[f.1]↔j ∉ keys fs:=by simp [hj]
  simp only [this]
theorem zeroF (W:World):(zeroValue 133).run Tryz.prog W=.ok (.agg #[.string { data:=#[] },.bool false]) W:=by kernel_rfl
theorem clo_call {k:Nat} {key:Tx} (h:has k key=true) (c:Nat):∃ g,cloF c key=some (clo g c)∧(∀ (x y:Value) (W:World),(callFunc g #[x,y]).run Tryz.prog W=.ok (.enter g #[x,y]) W) ∧
  ∀ (v:Tx) (hv:v.length≤140737488355328) (bd:Nat) (d:Dir) (W:World),PtrB W c bd→DirB W bd d→LaidU W→Calls Tryz.prog g #[.string (str v),.pointer (some ⟨c,0,none⟩)] W (StoT bd key v d W):=by
 rcases key_five h with rfl | rfl | rfl | rfl | rfl
 ·exact ⟨_,cloF_name c,fun x y W=>by kernel_rfl,fun v hv bd d W hp hd hL=>sto_name_any c bd d v (by omega) W hp hd⟩
 ·exact ⟨_,cloF_pool c,fun x y W=>by kernel_rfl,fun v hv bd d W hp hd hL=>sto_pool_any c bd d v (by omega) W hp hd⟩
 ·exact ⟨_,cloF_cap c,fun x y W=>by kernel_rfl,fun v hv bd d W hp hd hL=>sto_size_any c bd d v hv W hp hd hL⟩
 ·refine ⟨_,cloF_size c,fun x y W=>by kernel_rfl,fun v hv bd d W hp hd hL=>(sto_size_any c bd d v hv W hp hd hL).mono ?_⟩
  rintro e w' ⟨h1,h2,h3⟩
  exact ⟨by rw [okv_siz,← okv_cap];exact h1,h2,by rw [sto_size,← sto_cap];exact h3⟩
 ·exact ⟨_,cloF_acc c,fun x y W=>by kernel_rfl,fun v hv bd d W hp hd hL=>sto_acc_any c bd d v W hp hd⟩
theorem fld_len (x:Tx):(fld x).1.length≤x.length∧(fld x).2.length≤x.length:=by
 unfold fld
 cases hc:cut x with
 | none=>simp
 | some f =>
  obtain ⟨e,_⟩:=cut_some x f.1 f.2 hc
  simp only [Option.getD_some]
  rw [e]
  simp
  omega
end Go.Proofs.YtekcjfdllclphaaGreatDoor.gn
end
section
set_option linter.unusedVariables false
namespace Go.Proofs.YtekcjfdllclphaaGreatDoor.gn
open Go.RowKit
open Go.Proofs.YtekcjfdllclphaaGreatDoor.un
open Go.Lib (decFrom)
def quant (n:Int):Bool:=decide (0≤n∧n≤1099511627776)
theorem dquant_any (n:Int) (w:World):Calls Tryz.prog 46 #[.int .i64 n] w fun e w'=>e=.returned (.bool (quant n))∧w=w':=by
 by_cases h0:0≤n
 ·by_cases h1:n≤1099511627776
  ·have H:=Lib.hid (show quant n=true from decide_eq_true ⟨h0,h1⟩)
   have h2:decide (n≤1099511627776)=true:=decide_eq_true h1
   go_enter Tryz.func46,Tryz.ntmps46
   go_wp2
   go_ret
   exact ⟨by rw [H.out];rfl,rfl⟩
  ·have H:=Lib.hid (show quant n=false from decide_eq_false (by omega))
   have h2:decide (n≤1099511627776)=false:=decide_eq_false h1
   go_enter Tryz.func46,Tryz.ntmps46
   go_wp2
   go_ret
   exact ⟨by rw [H.out];rfl,rfl⟩
 ·have H:=Lib.hid (show quant n=false from decide_eq_false (by omega))
  go_enter Tryz.func46,Tryz.ntmps46
  go_wp2
  go_ret
  exact ⟨by rw [H.out];rfl,rfl⟩
theorem digit_any (c:UInt8) (w:World):Calls Tryz.prog 44 #[.int .u8 (c.toNat:Int)] w fun e w'=>e=.returned (.bool (dig c))∧w=w':=by
 by_cases h0:48≤c.toNat
 ·by_cases h1:c.toNat≤57
  ·have H:=Lib.hid (show dig c=true from decide_eq_true ⟨h0,h1⟩)
   have h2:decide ((c.toNat:Int)≤57)=true:=decide_eq_true (by omega)
   go_enter Tryz.func44,Tryz.ntmps44
   go_wp2
   go_ret
   exact ⟨by rw [H.out];rfl,rfl⟩
  ·have H:=Lib.hid (show dig c=false from decide_eq_false (by omega))
   have h2:decide ((c.toNat:Int)≤57)=false:=decide_eq_false (by omega)
   go_enter Tryz.func44,Tryz.ntmps44
   go_wp2
   go_ret
   exact ⟨by rw [H.out];rfl,rfl⟩
 ·have H:=Lib.hid (show dig c=false from decide_eq_false (by omega))
  go_enter Tryz.func44,Tryz.ntmps44
  go_wp2
  go_ret
  exact ⟨by rw [H.out];rfl,rfl⟩
theorem decFrom_step {l:List UInt8} {k acc:Nat} (h:k < l.length) (hd:dig (l[k]'h)=true):decFrom acc (l.drop k)=decFrom (10 * acc+((l[k]'h).toNat - 48)) (l.drop (k+1)):=by
 rw [List.drop_eq_getElem_cons h,Lib.decFrom,digitVal_dig,if_pos hd]
 show decFrom (acc * 10+_) _=_
 rw [Nat.mul_comm]
theorem decFrom_stop {l:List UInt8} {k acc:Nat} (h:k < l.length) (hd:dig (l[k]'h)=false):decFrom acc (l.drop k)=none:=by
 rw [List.drop_eq_getElem_cons h,Lib.decFrom,digitVal_dig,if_neg (by rw [hd];decide)]
theorem num_from {l:List UInt8} (h1:l≠[]) (h2:l.length≤13) (h3:1 < l.length→l.head?≠some 48):num? l=match decFrom 0 l with
  | some n=>if n≤top then some n else none
  | none=>none:=by
 unfold num?
 rw [if_neg]
 ·rfl
 ·rintro (h | h | ⟨h,h'⟩)
  ·exact h1 h
  ·omega
  ·exact h3 h h'
set_option maxRecDepth 100000 in
set_option maxHeartbeats 3200000 in
theorem dnumber_go (l:List UInt8) (h1:l≠[]) (h2:l.length≤13) (h3:1 < l.length→l.head?≠some 48) (w:World) :
  Calls Tryz.prog 23 #[.string (str l)] w fun e w'=>e=.returned (.tuple #[.int .i64 (qv (num? l)),.int .i64 (qe (num? l))])∧w=w':=by
 have hnum:=num_from h1 h2 h3
 obtain ⟨ans,hans⟩:∃ ans,decFrom 0 l=ans:=⟨_,rfl⟩
 rw [hans] at hnum
 have HN:=Lib.hid hnum
 have HA:=Lib.hid (show decFrom 0 (l.drop 0)=ans by simpa using hans)
 have hz:=str_size l
 have hz1:(str l).size≤13:=by omega
 have hz0:0 < (str l).size:=by
  cases l with
  | nil=>exact absurd rfl h1
  | cons b r=>rw [hz];simp
 have hz2:(((str l).size:Int) == 0)=false:=by rw [beq_eq_false_iff_ne];omega
 have hz3:decide (13 < ((str l).size:Int))=false:=decide_eq_false (by omega)
 have hlead:(1 < (str l).size∧((((str l)[0]'hz0).toNat:Int) == 48)=false)∨((str l).size≤1):=by
  rcases Nat.lt_or_ge 1 (str l).size with h | h
  ·left
   refine ⟨h,?_⟩
   rw [beq_eq_false_iff_ne,str_at]
   intro he
   apply h3 (by omega)
   cases l with
   | nil=>exact absurd rfl h1
   | cons b r =>
    have:b.toNat=48:=by
     have:(b.toNat:Int)=48:=he
     omega
    have:b=48:=UInt8.toNat_inj.1 this
    rw [this]
    rfl
  ·exact .inr h
 have HZ:=Lib.hid hz
 clear hz hnum hans h1 h2 h3
 rcases hlead with ⟨hl1,hl2⟩ | hl1
 case' inr=>have hl3:decide (1 < ((str l).size:Int))=false:=decide_eq_false (by omega)
 case' inl=>have hl3:decide (1 < ((str l).size:Int))=true:=decide_eq_true (by omega)
 all_goals
  go_enter Tryz.func23,Tryz.ntmps23
  go_wp2
  go_loopw [4,5] (fun s4 s5 wr=>∃ k acc:Nat,s5=.int .i64 k∧s4=.int .i64 acc∧k≤(str l).size∧Aside (acc < 10 ^ k)∧Aside (decFrom acc (l.drop k)=ans)∧wr=w) (fun _ s5 _=>(str l).size - (intOf s5).toNat)
  case atStart=>exact ⟨0,0,rfl,rfl,Nat.zero_le _,(by decide:(0:Nat) < 10 ^ 0),HA.out,rfl⟩
  case round =>
   obtain ⟨k,acc,rfl,rfl,hk,hacc,hok,rfl⟩:=hrel
   by_cases hlt:k < (str l).size
   ·have hk2:k < l.length:=by have:=HZ.out;omega
    have hp:acc < 10 ^ 12:=Nat.lt_of_lt_of_le hacc (Nat.pow_le_pow_right (by decide) (by omega))
    have hp2:acc < 1000000000000:=hp
    have hpk:10 * acc+9 < 10 ^ (k+1):=by
     have:acc < 10 ^ k:=hacc
     rw [Nat.pow_succ];omega
    have HP:=Lib.hid hpk
    have hb:=UInt8.toNat_lt ((str l)[k]'hlt)
    have hge:=str_at l k hlt
    cases hd:dig ((str l)[k]'hlt) with
    | true =>
     have hd2:=hd
     unfold dig at hd2
     have hd3:48≤((str l)[k]'hlt).toNat∧((str l)[k]'hlt).toNat≤57:=by simpa using hd2
     obtain ⟨d1,d2⟩:=hd3
     have hok2:decFrom (10 * acc+(((str l)[k]'hlt).toNat - 48)) (l.drop (k+1))=ans:=by
      rw [hge,← decFrom_step hk2 (by rw [←hge];exact hd)]
      exact hok
     have HO:=Lib.hid hok2
     have HD:=Lib.hid hd
     clear hok2 hok hd2 hp hpk hacc hge hd
     go_wp2_with (go_at_call 44;refine (digit_any ((str l)[k]'hlt) _).mono ?_;rintro e w2 ⟨rfl,rfl⟩;rw [HD.out])
     go_roundw
     case rel=>exact ⟨k+1,10 * acc+(((str l)[k]'hlt).toNat - 48),by go_num,by go_num,by omega,(show _ < _ by have:=HP.out;omega),HO.out,trivial⟩
     case measure=>simp [intOf];omega
    | false =>
     have hans:ans=none:=by
      rw [←(show decFrom acc (l.drop k)=ans from hok)]
      exact decFrom_stop hk2 (by rw [←hge];exact hd)
     subst hans
     have HD:=Lib.hid hd
     clear hok hp hpk hacc hge hd
     go_wp2_with (go_at_call 44;refine (digit_any ((str l)[k]'hlt) _).mono ?_;rintro e w2 ⟨rfl,rfl⟩;rw [HD.out])
     go_ret2
     rw [HN.out]
     exact ⟨rfl,rfl⟩
   ·have hkl:k=l.length:=by have:=HZ.out;omega
    have hans:ans=some acc:=by
     rw [←(show decFrom acc (l.drop k)=ans from hok),hkl,List.drop_length]
     rfl
    have hp:acc < 10 ^ 13:=Nat.lt_of_lt_of_le hacc (Nat.pow_le_pow_right (by decide) (by omega))
    have hp2:acc < 10000000000000:=hp
    have hn:=HN.out
    rw [hans] at hn
    dsimp only at hn
    clear hok hp hacc hans hkl HN HA
    by_cases ht:acc≤top
    ·rw [if_pos ht] at hn
     unfold top at ht
     have HNN:=Lib.hid hn
     clear hn
     go_wp2
     go_ret2
     rw [HNN.out]
     exact ⟨rfl,rfl⟩
    ·rw [if_neg ht] at hn
     unfold top at ht
     have HNN:=Lib.hid hn
     clear hn
     go_wp2
     go_ret2
     rw [HNN.out]
     exact ⟨rfl,rfl⟩
end Go.Proofs.YtekcjfdllclphaaGreatDoor.gn
end
section
set_option linter.unusedVariables false
namespace Go.Proofs.YtekcjfdllclphaaGreatDoor.gn
open Go.ChangeShapes Go.WideShapes Go.ChangeAt Go.RowKit
def laid7 : List (String × DataW Unit) := [("math/bits.deBruijn32tab", Rows.laid_math_bits_deBruijn32tab), ("math/bits.deBruijn64tab", Rows.laid_math_bits_deBruijn64tab), ("internal/strconv.uint64pow10", Rows.laid_internal_strconv_uint64pow10), ("unicode/utf8.acceptRanges", Rows.laid_unicode_utf8_acceptRanges), ("strconv.ErrRange", Rows.laid_strconv_ErrRange), ("strconv.ErrSyntax", Rows.laid_strconv_ErrSyntax), ("unicode/utf8.first", Rows.laid_unicode_utf8_first)]
theorem starE : "*" ++ "errors.errorString" = "*errors.errorString" := by decide
theorem rowE (u : TypeId) (h : Tryz.prog.typeName? 3 u = some "*errors.errorString") : u = 220 :=
 typeName_ptr_named (nm := "errors.errorString") (by rw [starE]; kernel_rfl) (by kernel_rfl) (by decide) u (by rw [starE]; exact h)
theorem tabE:(Rows.laid_internal_strconv_uint64pow10:DataW Unit)=Lib.tabData .u64 Lib.pow10Tab:=by kernel_rfl
theorem laidU_of {W:World} (h:laidMetH Tryz.prog laid7 W):LaidU W:=by
 rw [MakeChecks.laidMetH_plain _ _ _ (by kernel_rfl)] at h
 have h3:=h.tail.tail
 have h6:=h3.tail.tail.tail
 rw [tabE] at h3
 refine ⟨Lib.tabIs_of_head (show Tryz.prog.globalNamed "internal/strconv.uint64pow10" = some 1 by kernel_rfl) (show (Tryz.prog.globals[1]?).map (·.type) = some 207 by kernel_rfl) Tryz.underlying207 Tryz.underlying192 (by kernel_rfl) (by kernel_rfl) h3, ?_⟩
 obtain ⟨a0, s0, hv0, -, -, -⟩ := laid_sentinel h6 (show Tryz.prog.globalNamed "strconv.ErrSyntax" = some 2 by kernel_rfl) (show (Tryz.prog.globals[2]?).map (·.type) = some 172 by kernel_rfl) Tryz.underlying172 rowE Tryz.underlying220 Tryz.underlying222 rfl rfl Tryz.underlying9 (by kernel_rfl) (by kernel_rfl)
 exact ⟨_,_,hv0⟩
theorem max_of {W:World} (h:W.ShapedOpen Tryz.prog):∃ m:Int,W.cell? ⟨0,0,none⟩=some (.int .i64 m) :=
 cell_of_shapedOpen_int (t:=3) (zero:=#[.int .i64 0]) h (of_decide_eq_true (by kernel_rfl)) (by kernel_rfl) rfl (by kernel_rfl) (by kernel_rfl) Tryz.underlying3
theorem laidD_of {W:World} (h:laidMetH Tryz.prog laid7 W) (hs:W.ShapedOpen Tryz.prog):LaidD W:=⟨laidU_of h,max_of hs⟩
theorem laid_met (os:Os) (args:Array Value):laidMetH Tryz.prog laid7 ((World.laidAll Tryz.prog os laid7).forCall (fun _ _=>0) ⟨#[],args,[]⟩).memory:=by
 rw [MakeChecks.laidMetH_plain _ _ _ (by kernel_rfl)]
 exact laidMet_laidAll _ (by kernel_rfl) (by kernel_rfl)
theorem handed_shaped {H:Type} {enc:TypeId × Value→H} {a:Assume} {C:Checked} {os:Os} {f:FuncId} {fn:Func} {s:ChangeSpec} {conds:List PathCond} {apart fresh handsOn again:Bool} {X:World→Array Value→Prop}
  (hX:∀ (w w':World) (args:Array Value),w.heap=w'.heap→X w args→X w' args)
  (own:ownKnob C.prog.godebug=none) (started:os.Started) (noInit:C.prog.inits.idxOf? f=none) (hfn:C.prog.funcs[f]?=some fn)
  (witness:∃ (w:World) (tape:Tape) (i:Input),w.os=os∧(w.forCall tape i).Shaped C.prog∧i.vars=[]∧Input.okWide C.prog (w.forCall tape i) .any w.heap.size f i ∧
   ((s.pre enc C.prog fn conds apart (w.forCall tape i).memory i.args∧X (w.forCall tape i).memory i.args)∧sizedMet enc C.prog fn (OpenSpec.ofChange s) apart (w.forCall tape i).memory i.args)∧a.holds C.prog (lone (Frame.enter C.prog f i.args .normal) [] (w.forCall tape i)))
  (contract:∀ (W:World) (base:Nat) (args:Array Value) (ds gs:List (DataW H)) (before:List MemPlace),
   (∀ (j:Nat) t v,fn.params[j]?=some t→args[j]?=some v→Value.okWide C.prog W .any base t v) →
   DataW.Whole enc C.prog fn.params.toList s.vars apart W args.toList ds gs before →
   W.ShapedOpen C.prog→X W args →
   Calls C.prog f args W fun e W'=>∃ v,e=.returned v∧s.post enc C.prog fn apart fresh handsOn again W args v W') :
  ReturnsInHanded a C os f .any (fun w args=>(s.pre enc C.prog fn conds apart w args∧X w args)∧sizedMet enc C.prog fn (OpenSpec.ofChange s) apart w args) (s.post enc C.prog fn apart fresh handsOn again):=by
 refine returnsInHanded_of_calls own started noInit witness ?_
 intro w tape i _ hsh _ hok hpre hholds
 obtain ⟨_,_,_,fn',hfn',_,_,_,_,hval⟩:=hok
 have e:fn'=fn:=Option.some.inj (hfn'.symm.trans hfn)
 subst e
 obtain ⟨⟨⟨ds,gs,before,hw,hc⟩,hx⟩,hz⟩:=hpre
 have hw':=DataW.Whole.of_heap (w':=w.forCall tape i) (by rfl) hw
 refine (contract (w.forCall tape i) w.heap.size i.args ds gs before hval hw' hsh (hX _ _ _ (by rfl) hx)).mono fun e W' ⟨v,he,hp⟩=>?_
 subst he
 exact ChangeSpec.post_blind hp
end Go.Proofs.YtekcjfdllclphaaGreatDoor.gn
end
