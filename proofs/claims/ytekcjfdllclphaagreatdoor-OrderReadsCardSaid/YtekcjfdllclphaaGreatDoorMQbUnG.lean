/- The document's answers: Number, by, Size. -/
import Derived.Test.YtekcjfdllclphaaGreatDoorMQbOrM
import Derived.Test.YtekcjfdllclphaaGreatDoorMQbGen
set_option linter.unusedVariables false
section
namespace Go.Proofs.YtekcjfdllclphaaGreatDoor.gn
open Go.RowKit
open Go.Proofs.YtekcjfdllclphaaGreatDoor.un
set_option maxRecDepth 100000 in
set_option maxHeartbeats 1600000 in
theorem dnumber_any (l:List UInt8) (hl:l.length≤140737488355328) (w:World) :
  Calls Tryz.prog 23 #[.string (str l)] w fun e w'=>e=.returned (.tuple #[.int .i64 (qv (num? l)),.int .i64 (qe (num? l))])∧w=w':=by
 by_cases h1:l=[]
 ·subst h1
  rw [num_empty,qv_none,qe_none]
  have hz:(str []).size=0:=rfl
  go_enter Tryz.func23,Tryz.ntmps23
  go_wp2
  go_ret2
  exact ⟨rfl,rfl⟩
 ·have hz:=str_size l
  have hz0:0 < (str l).size:=by
   cases l with
   | nil=>exact absurd rfl h1
   | cons b r=>rw [hz];simp
  have hz2:(((str l).size:Int) == 0)=false:=by rw [beq_eq_false_iff_ne];omega
  by_cases h2:13 < l.length
  ·rw [num_none_long h2,qv_none,qe_none]
   have hz3:decide (13 < ((str l).size:Int))=true:=decide_eq_true (by omega)
   have hz4:(str l).size≤140737488355328:=by omega
   clear hz h1 h2 hl
   go_enter Tryz.func23,Tryz.ntmps23
   go_wp2
   go_ret2
   exact ⟨rfl,rfl⟩
  ·by_cases h3:1 < l.length∧l.head?=some 48
   ·rw [num_lead h3.1 h3.2,qv_none,qe_none]
    have hz3:decide (13 < ((str l).size:Int))=false:=decide_eq_false (by omega)
    have hz4:decide (1 < ((str l).size:Int))=true:=decide_eq_true (by omega)
    have hz5:((((str l)[0]'hz0).toNat:Int) == 48)=true:=by
     rw [str_at]
     cases l with
     | nil=>exact absurd rfl h1
     | cons b r =>
      have:b=48:=by simpa using h3.2
      subst this
      rfl
    have hz6:(str l).size≤13:=by omega
    clear hz h1 h2 hl h3
    go_enter Tryz.func23,Tryz.ntmps23
    go_wp2
    go_ret2
    exact ⟨rfl,rfl⟩
   ·exact dnumber_go l h1 (by omega) (fun a b=>h3 ⟨a,b⟩) w
theorem find_first {α:Type} (p:α→Bool):∀ (L:List α) (k:Nat) (h:k < L.length),(∀ i (hi:i < k),p (L[i]'(by omega))=false)→p (L[k]'h)=true→L.find? p=some (L[k]'h)
 | [],k,h,_,_=>by simp at h
 | a::L,0,h,_,hy=>by
  have:p a=true:=hy
  simp [this]
 | a::L,k+1,h,hno,hy=>by
  have h0:p a=false:=hno 0 (by omega)
  rw [List.find?_cons,h0]
  exact find_first p L k (by simpa using h) (fun i hi=>hno (i+1) (by omega)) hy
theorem find_no {α:Type} (p:α→Bool) (L:List α) (hno:∀ i (hi:i < L.length),p (L[i]'hi)=false):L.find? p=none:=by
 rw [List.find?_eq_none]
 intro x hx
 obtain ⟨i,hi,rfl⟩:=List.getElem_of_mem hx
 rw [hno i hi]
 decide
def bn (k:Nat):List UInt8:=(byL.getD k ([],0)).1
def bz (k:Nat):Nat:=(byL.getD k ([],0)).2
theorem byL_at {k:Nat} (h:k < byL.length):byL[k]=(bn k,bz k):=by
 unfold bn bz
 rw [List.getD_eq_getElem?_getD,List.getElem?_eq_getElem h]
 rfl
theorem by_at {u:List UInt8} {k:Nat} (hk:k < 9) (hno:∀ i,i < k→bn i≠u) (hy:bn k=u):by_ u=bz k:=by
 have hk':k < byL.length:=hk
 unfold by_
 rw [find_first (fun p=>p.1 == u) byL k hk' (fun i hi=>by
  have hi':i < byL.length:=Nat.lt_trans hi hk'
  rw [byL_at hi',beq_eq_false_iff_ne];exact hno i hi) (by rw [byL_at hk',beq_iff_eq];exact hy)]
 dsimp only
 rw [byL_at hk']
theorem by_no {u:List UInt8} (hno:∀ i,i < 9→bn i≠u):by_ u=0:=by
 unfold by_
 rw [find_no (fun p=>p.1 == u) byL (fun i hi=>by rw [byL_at hi,beq_eq_false_iff_ne];exact hno i hi)]
def byN:Array Value:=#[.string { data:=#[] },.string { data:=#[75,66] },.string { data:=#[77,66] },.string { data:=#[71,66] },.string { data:=#[84,66] },.string { data:=#[75,105,66] },.string { data:=#[77,105,66] },.string { data:=#[71,105,66] },.string { data:=#[84,105,66] }]
def byS:Array Value:=#[.int .i64 1,.int .i64 1000,.int .i64 1000000,.int .i64 1000000000,.int .i64 1000000000000,.int .i64 1024,.int .i64 1048576,.int .i64 1073741824,.int .i64 1099511627776]
theorem lt9 {k:Nat} (h:k < 9):k=0∨k=1∨k=2∨k=3∨k=4∨k=5∨k=6∨k=7∨k=8:=by omega
theorem byN_at {k:Nat} (hk:k < 9):byN[k]?=some (.string (str (bn k))):=by
 rcases lt9 hk with rfl | rfl | rfl | rfl | rfl | rfl | rfl | rfl | rfl <;> rfl
theorem byS_at {k:Nat} (hk:k < 9):byS[k]?=some (.int .i64 (bz k:Nat)):=by
 rcases lt9 hk with rfl | rfl | rfl | rfl | rfl | rfl | rfl | rfl | rfl <;> rfl
set_option maxRecDepth 100000 in
set_option maxHeartbeats 1600000 in
theorem dby_any (u:List UInt8) (w:World):Calls Tryz.prog 45 #[.string (str u)] w (Told (.int .i64 (by_ u:Nat)) w):=by
 go_enter Tryz.func45,Tryz.ntmps45
 go_wp2
 obtain ⟨w3,hw3⟩:∃ w3,(w.alloc (.cells byN 9)).alloc (.cells byS 2)=w3:=⟨_,rfl⟩
 have hcn:∀ k,k < 9→w3.cell? ⟨w.heap.size,k,none⟩=some (.string (str (bn k))):=fun k hk=>by
  rw [←hw3]
  have h0:(w.alloc (.cells byN 9)).cell? ⟨w.heap.size,k,none⟩=some (.string (str (bn k))):=by rw [World.cell?_alloc_mark];exact byN_at hk
  rw [Below.cell ((Below.refl (w.alloc (.cells byN 9)).heap.size _).alloc (Nat.le_refl _) _) (by simp)]
  exact h0
 have hcs:∀ k,k < 9→w3.cell? ⟨w.heap.size+1,k,none⟩=some (.int .i64 (bz k:Nat)):=fun k hk=>by
  rw [←hw3,Joins.cell_alloc_mark_at _ _ _ _ _ _ (by simp)]
  exact byS_at hk
 have hsz3:w.heap.size+1 < w3.heap.size:=by rw [←hw3];simp
 have hb3:Below w.heap.size w w3:=by rw [←hw3];exact ((Below.refl _ _).alloc (Nat.le_refl _) _).alloc (by simp) _
 have HB3:=Lib.hid hb3
 unfold byN byS at hw3
 rw [hw3]
 clear hw3 hb3
 have HCN:=Lib.hid hcn
 have HCS:=Lib.hid hcs
 clear hcn hcs
 go_loopw [5] (fun s5 wr=>∃ k:Nat,s5=.int .i64 k∧k≤9∧Aside (∀ i,i < k→bn i≠u)∧wr=w3) (fun s5 _=>9 - (intOf s5).toNat)
 case atStart=>exact ⟨0,rfl,by omega,fun i hi=>absurd hi (by omega),rfl⟩
 case round =>
  obtain ⟨k,rfl,hk,hno,rfl⟩:=hrel
  by_cases h9:k < 9
  ·have hn:=HCN.out k h9
   have hs:=HCS.out k h9
   by_cases he:bn k=u
   ·have HX:=Lib.hid (by_at h9 hno he)
    have hq:((str (bn k)).toList == (str u).toList)=true:=by rw [he];simp
    clear he hno
    go_wp2
    go_ret
    exact ⟨by rw [HX.out];rfl,HB3.out⟩
   ·have hq:((str (bn k)).toList == (str u).toList)=false:=by
     rw [str_toList,str_toList,beq_eq_false_iff_ne]
     exact he
    have hno2:∀ i,i < k+1→bn i≠u:=fun i hi=>by
     rcases Nat.lt_or_ge i k with h | h
     ·exact hno i h
     ·rw [show i=k by omega];exact he
    have HN:=Lib.hid hno2
    clear he hno hno2
    go_wp2
    go_roundw
    case rel=>exact ⟨k+1,by go_num,by omega,HN.out,trivial⟩
    case measure=>simp [intOf];omega
  ·obtain rfl:k=9:=by omega
   have HX:=Lib.hid (by_no hno)
   clear hno
   go_wp2
   go_ret
   exact ⟨by rw [HX.out];rfl,HB3.out⟩
theorem tw_get:∀ (l:List UInt8) (k:Nat) (h':k < l.length),k < (l.takeWhile dig).length→dig (l[k]'h')=true
 | [],k,h',_=>by simp at h'
 | a::l,k,h',h=>by
  rw [List.takeWhile_cons] at h
  split at h
  ·rename_i ha
   cases k with
   | zero=>exact ha
   | succ k=>exact tw_get l k (by simpa using h') (by simpa using h)
  ·simp at h
theorem tw_stop:∀ (l:List UInt8) (h:(l.takeWhile dig).length < l.length),dig (l[(l.takeWhile dig).length]'h)=false
 | [],h=>by simp at h
 | a::l,h=>by
  cases ha:dig a with
  | true =>
   have e:((a::l).takeWhile dig).length=(l.takeWhile dig).length+1:=by simp [ha]
   have:=tw_stop l (by simp [e] at h;exact h)
   simp only [e,List.getElem_cons_succ]
   exact this
  | false =>
   have e:((a::l).takeWhile dig).length=0:=by simp [ha]
   simp only [e,List.getElem_cons_zero]
   exact ha
theorem tw_len (l:List UInt8):(l.takeWhile dig).length≤l.length:=by
 have:=congrArg List.length (List.takeWhile_append_dropWhile (p:=dig) (l:=l))
 rw [List.length_append] at this
 omega
theorem tw_take (l:List UInt8):l.take (l.takeWhile dig).length=l.takeWhile dig:=by
 have h:l.take (l.takeWhile dig).length=(l.takeWhile dig++l.dropWhile dig).take (l.takeWhile dig).length:=by rw [List.takeWhile_append_dropWhile]
 rw [h]
 exact List.take_left
theorem tw_drop (l:List UInt8):l.drop (l.takeWhile dig).length=l.dropWhile dig:=by
 have h:l.drop (l.takeWhile dig).length=(l.takeWhile dig++l.dropWhile dig).drop (l.takeWhile dig).length:=by rw [List.takeWhile_append_dropWhile]
 rw [h]
 exact List.drop_left
theorem dsize_of (l:List UInt8):size? l=match num? (l.takeWhile dig) with
  | some n=>if by_ (l.dropWhile dig)=0∨top / by_ (l.dropWhile dig) < n then none else some (n * by_ (l.dropWhile dig))
  | none=>none:=by
 rw [←size_eq]
 rfl
set_option maxRecDepth 100000 in
set_option maxHeartbeats 3200000 in
theorem dsize_any (l:List UInt8) (hl:l.length≤140737488355328) (w:World) :
  Calls Tryz.prog 24 #[.string (str l)] w (Tnum (size? l) w):=by
 obtain ⟨m,hm⟩:∃ m,(l.takeWhile dig).length=m:=⟨_,rfl⟩
 have hml:=tw_len l
 have hget:∀ k (h:k < l.length),k < m→dig (l[k]'h)=true:=fun k h hk=>tw_get l k h (by rw [hm];exact hk)
 have hstop:∀ k (h:k < l.length),k=m→dig (l[k]'h)=false:=fun k h hk=>by
  subst hk;subst hm
  exact tw_stop l h
 have ht:=tw_take l
 have hd:=tw_drop l
 have hsz:=dsize_of l
 rw [hm] at ht hd hml
 obtain ⟨f,hf⟩:∃ f,l.takeWhile dig=f:=⟨_,rfl⟩
 obtain ⟨u,hu⟩:∃ u,l.dropWhile dig=u:=⟨_,rfl⟩
 rw [hf] at ht hsz
 rw [hu] at hd hsz
 have hfl:f.length≤140737488355328:=by rw [←ht,List.length_take];omega
 have HF:=Lib.hid hfl
 have HG:=Lib.hid hget
 have HS:=Lib.hid hstop
 have s1:∀ W,_:=fun W=>sl_upto l (m:Int) m rfl hml W
 have s2:∀ W,_:=fun W=>sl_from l (m:Int) m rfl hml W
 rw [ht] at s1
 rw [hd] at s2
 have hz:=str_size l
 have hmz:m≤(str l).size:=by omega
 have hlz:(str l).size≤140737488355328:=by omega
 have HZ:=Lib.hid hz
 have HSZ:=Lib.hid hsz
 have hbu:=by_le u
 unfold top at hbu
 clear hget hstop ht hd hsz hf hu hfl hz hm hml hl
 go_enter Tryz.func24,Tryz.ntmps24
 go_wp2
 go_loopw [4] (fun s4 wr=>∃ k:Nat,s4=.int .i64 k∧k≤m∧wr=w) (fun s4 _=>m - (intOf s4).toNat)
 case atStart=>exact ⟨0,rfl,Nat.zero_le _,rfl⟩
 case round =>
  obtain ⟨k,rfl,hk,rfl⟩:=hrel
  by_cases hlt:k < m
  ·have hks:k < (str l).size:=by omega
   have hd:dig ((str l)[k]'hks)=true:=by rw [str_at];exact HG.out k (by rw [←HZ.out];exact hks) hlt
   have HD:=Lib.hid hd
   clear hd
   go_wp2_with (go_at_call 44;refine (digit_any ((str l)[k]'hks) _).mono ?_;rintro e w2 ⟨rfl,rfl⟩;rw [HD.out])
   go_roundw
   case rel=>exact ⟨k+1,by go_num,by omega,trivial⟩
   case measure=>simp [intOf];omega
  ·obtain rfl:k=m:=by omega
   have hsz:=HSZ.out
   have hend:(k < (str l).size∧∃ h:k < (str l).size,dig ((str l)[k]'h)=false)∨(str l).size≤k:=by
    rcases Nat.lt_or_ge k (str l).size with h | h
    ·exact .inl ⟨h,h,by rw [str_at];exact HS.out k (by rw [←HZ.out];exact h) rfl⟩
    ·exact .inr h
   have hn:=dnumber_any f HF.out
   have HNU:=Lib.hid hn
   clear hn HSZ
   cases hnf:num? f with
   | none =>
    have HN:=Lib.hid hnf
    rw [hnf] at hsz
    dsimp only at hsz
    have HZZ:=Lib.hid hsz
    clear hnf hsz
    rcases hend with ⟨hks,_,hd⟩ | hks
    ·have HD:=Lib.hid hd
     clear hd
     go_wp2_with (first
      | (go_at_call 44;refine (digit_any ((str l)[k]'hks) _).mono ?_;rintro e w2 ⟨rfl,rfl⟩;rw [HD.out])
      | (go_at_call 23;refine (HNU.out _).mono ?_;rintro e w2 ⟨rfl,rfl⟩;rw [HN.out,qv_none,qe_none])
      | (go_at_call 45;refine (dby_any u _).mono ?_;rintro e w3 ⟨rfl,hb3⟩;have HB3:=Lib.hid hb3;clear hb3))
     go_ret2
     exact ⟨by rw [HZZ.out];rfl,HB3.out⟩
    ·go_wp2_with (first
      | (go_at_call 23;refine (HNU.out _).mono ?_;rintro e w2 ⟨rfl,rfl⟩;rw [HN.out,qv_none,qe_none])
      | (go_at_call 45;refine (dby_any u _).mono ?_;rintro e w3 ⟨rfl,hb3⟩;have HB3:=Lib.hid hb3;clear hb3))
     go_ret2
     exact ⟨by rw [HZZ.out];rfl,HB3.out⟩
   | some n =>
    have HN:=Lib.hid hnf
    rw [hnf] at hsz
    dsimp only at hsz
    have hnt:=(num_some hnf).2.2.2.1
    unfold top at hnt
    obtain ⟨y,hy⟩:∃ y,by_ u=y:=⟨_,rfl⟩
    have HY:=Lib.hid hy
    rw [hy] at hsz hbu
    have hq:Int.tdiv 1099511627776 (y:Int)=((top / y:Nat):Int):=rfl
    have hqt:top / y≤1099511627776:=Nat.div_le_self _ _
    have hcase:(y=0∧size? l=none)∨(0 < y∧top / y < n∧size? l=none)∨(0 < y∧n≤top / y∧size? l=some (n * y)∧n * y≤1099511627776):=by
     rw [hsz]
     rcases Nat.eq_zero_or_pos y with h | h
     ·exact .inl ⟨h,by rw [if_pos (.inl h)]⟩
     ·rcases Nat.lt_or_ge (top / y) n with h2 | h2
      ·exact .inr (.inl ⟨h,h2,by rw [if_pos (.inr h2)]⟩)
      ·exact .inr (.inr ⟨h,h2,by rw [if_neg (by omega)],Nat.le_trans (Nat.mul_le_mul_right _ h2) (Nat.div_mul_le_self _ _)⟩)
    obtain ⟨q,hqe⟩:∃ q,top / y=q:=⟨_,rfl⟩
    rw [hqe] at hq hqt hcase
    clear hnf hsz hy hqe
    rcases hcase with ⟨hy0,hsz⟩ | ⟨hy0,hqn,hsz⟩ | ⟨hy0,hqn,hsz,hny⟩
    case' inl=>subst hy0;clear hq hqt
    case' inr.inl=>have hy1:((y:Int) == 0)=false:=by rw [beq_eq_false_iff_ne];omega
    case' inr.inr =>
     have hy1:((y:Int) == 0)=false:=by rw [beq_eq_false_iff_ne];omega
     have hmi:(n:Int) * (y:Int)=((n * y:Nat):Int):=by push_cast;rfl
     generalize n * y=z at *
    all_goals
     have HZZ:=Lib.hid hsz
     clear hsz
     rcases hend with ⟨hks,_,hd⟩ | hks
     ·have HD:=Lib.hid hd
      clear hd
      go_wp2_with (first
       | (go_at_call 44;refine (digit_any ((str l)[k]'hks) _).mono ?_;rintro e w2 ⟨rfl,rfl⟩;rw [HD.out])
       | (go_at_call 23;refine (HNU.out _).mono ?_;rintro e w2 ⟨rfl,rfl⟩;rw [HN.out,qv_some,qe_some])
       | (go_at_call 45;refine (dby_any u _).mono ?_;rintro e w3 ⟨rfl,hb3⟩;rw [HY.out];have HB3:=Lib.hid hb3;clear hb3))
      go_ret2
      exact ⟨by rw [HZZ.out];rfl,HB3.out⟩
     ·go_wp2_with (first
       | (go_at_call 23;refine (HNU.out _).mono ?_;rintro e w2 ⟨rfl,rfl⟩;rw [HN.out,qv_some,qe_some])
       | (go_at_call 45;refine (dby_any u _).mono ?_;rintro e w3 ⟨rfl,hb3⟩;rw [HY.out];have HB3:=Lib.hid hb3;clear hb3))
      go_ret2
      exact ⟨by rw [HZZ.out];rfl,HB3.out⟩
end Go.Proofs.YtekcjfdllclphaaGreatDoor.gn
end
