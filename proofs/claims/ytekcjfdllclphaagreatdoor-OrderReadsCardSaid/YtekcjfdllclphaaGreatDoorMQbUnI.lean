/- The document's answer: Name. -/
import Derived.Test.YtekcjfdllclphaaGreatDoorMQbOrM
set_option linter.unusedVariables false
section
namespace Go.Proofs.YtekcjfdllclphaaGreatDoor.gn
open Go.RowKit
open Go.Proofs.YtekcjfdllclphaaGreatDoor.un
theorem wordb_yes {c:UInt8} (h:wordb c=true):(97≤c.toNat∧c.toNat≤122)∨(65≤c.toNat∧c.toNat≤90)∨(48≤c.toNat∧c.toNat≤57)∨c.toNat=95:=by
 unfold wordb at h
 simp only [Bool.or_eq_true,decide_eq_true_eq] at h
 omega
theorem wordb_no {c:UInt8} (h:wordb c=false):c.toNat < 45∨c.toNat=45∨c.toNat=46∨c.toNat=47∨(58≤c.toNat∧c.toNat≤64)∨(91≤c.toNat∧c.toNat≤94)∨c.toNat=96∨123≤c.toNat:=by
 unfold wordb at h
 simp only [Bool.or_eq_false_iff,decide_eq_false_iff_not] at h
 omega
def nameLast (l:List UInt8):Bool:=decide (0 < l.length) && decide (l.length≤32)
theorem isName_of (l:List UInt8):isName l=(nameLast l && okFrom 0 l):=rfl
set_option maxRecDepth 100000 in
set_option maxHeartbeats 4000000 in
theorem dname_any (l:List UInt8) (hl:l.length≤140737488355328) (w:World):Calls Tryz.prog 55 #[.string (str l)] w fun e w'=>e=.returned (.bool (isName l))∧w=w':=by
 obtain ⟨ans,hans⟩:∃ ans,okFrom 0 l=ans:=⟨_,rfl⟩
 have HI:=Lib.hid (show isName l=(nameLast l && ans) by rw [isName_of,hans])
 have HN:=Lib.hid (show okFrom 0 (l.drop 0)=ans by simpa using hans)
 have hz:=str_size l
 have hz1:(str l).size≤140737488355328:=by omega
 have HZ:=Lib.hid hz
 clear hans hz hl
 go_enter Tryz.func55,Tryz.ntmps55
 go_wp2
 go_loopw [3] (fun s3 wr=>∃ k:Nat,s3=.int .i64 k∧k≤(str l).size∧Aside (okFrom k (l.drop k)=ans)∧wr=w) (fun s3 _=>(str l).size - (intOf s3).toNat)
 case atStart=>exact ⟨0,rfl,Nat.zero_le _,HN.out,rfl⟩
 case round =>
  obtain ⟨k,rfl,hk,hok,rfl⟩:=hrel
  by_cases hlt:k < (str l).size
  ·have hpl:k < l.length:=by rw [←HZ.out];exact hlt
   have hg:=str_at l k hlt
   have HOK:=Lib.hid (show (nmAt k ((str l)[k]'hlt) && okFrom (k+1) (l.drop (k+1)))=ans by
    rw [hg,← okFrom_drop hpl]
    exact hok)
   clear hok hg
   obtain ⟨c,hc⟩:∃ c,(str l)[k]'hlt=c:=⟨_,rfl⟩
   rw [hc] at HOK
   have hix:∀ W,(Instr.index 9 (.string (str l)) (.int .i64 (k:Int))).run Tryz.prog W=.ok (.int .u8 (c.toNat:Int)) W:=fun W=>by
    rw [←hc,run_index_string W _ (str l) .i64 (k:Int) Tryz.underlying9,dif_pos ⟨by omega,by omega⟩]
    rfl
   cases hw:wordb c with
   | true =>
    have hnm:nmAt k c=true:=by unfold nmAt;rw [hw];rfl
    have HO2:=Lib.hid (show okFrom (k+1) (l.drop (k+1))=ans by rw [←HOK.out,hnm];rfl)
    have hcs:=wordb_yes hw
    have hdg:dig c=decide (48≤c.toNat∧c.toNat≤57):=rfl
    clear HOK hnm hw hc
    rcases hcs with ⟨c1,c2⟩ | ⟨c1,c2⟩ | ⟨c1,c2⟩ | c1
    case' inl=>have hd2:dig c=false:=by rw [hdg];exact decide_eq_false (by omega)
    case' inr.inl=>have hd2:dig c=false:=by rw [hdg];exact decide_eq_false (by omega)
    case' inr.inr.inl=>have hd2:dig c=true:=by rw [hdg];exact decide_eq_true (by omega)
    case' inr.inr.inr =>
     have hd2:dig c=false:=by rw [hdg];exact decide_eq_false (by omega)
     have e95:((c.toNat:Int) == 95)=true:=by rw [beq_iff_eq];omega
     have c2:94 < c.toNat:=by omega
     have c3:c.toNat < 96:=by omega
     clear c1
    all_goals
     have HD:=Lib.hid hd2
     clear hd2 hdg
     go_wp2_with (go_at_call 44;refine (digit_any c _).mono ?_;rintro e w2 ⟨rfl,rfl⟩;rw [HD.out])
     go_roundw
     case rel=>exact ⟨k+1,by go_num,by omega,HO2.out,trivial⟩
     case measure=>simp [intOf];omega
   | false =>
    have hcs:=wordb_no hw
    have hdg:dig c=decide (48≤c.toNat∧c.toNat≤57):=rfl
    have hd2:dig c=false:=by rw [hdg];exact decide_eq_false (by omega)
    have HD:=Lib.hid hd2
    have e95:((c.toNat:Int) == 95)=false:=by rw [beq_eq_false_iff_ne];omega
    have hnm:nmAt k c=(decide (k≠0) && (decide (c.toNat=45) || decide (c.toNat=46))):=by unfold nmAt;rw [hw];rfl
    rw [hnm] at HOK
    clear hnm hw hc hd2 hdg
    by_cases hk0:k=0
    ·have hans:ans=false:=by rw [←HOK.out,show decide (k≠0)=false from decide_eq_false (by omega)];rfl
     have HIF:=Lib.hid (show isName l=false by rw [HI.out,hans];simp)
     have k0:((k:Int) == 0)=true:=by rw [beq_iff_eq];omega
     clear hk0 HOK hans
     rcases hcs with c1 | c1 | c1 | c1 | ⟨c1,c2⟩ | ⟨c1,c2⟩ | c1 | c1
     case' inr.inl =>
      have c2:44 < c.toNat:=by omega
      have c3:c.toNat < 46:=by omega
      clear c1
     case' inr.inr.inl =>
      have c2:45 < c.toNat:=by omega
      have c3:c.toNat < 47:=by omega
      clear c1
     case' inr.inr.inr.inl =>
      have c2:46 < c.toNat:=by omega
      have c3:c.toNat < 48:=by omega
      clear c1
     case' inr.inr.inr.inr.inr.inr.inl =>
      have c2:95 < c.toNat:=by omega
      have c3:c.toNat < 97:=by omega
      clear c1
     all_goals
      try have d122:decide ((c.toNat:Int)≤122)=false:=decide_eq_false (by omega)
      try have d90:decide ((c.toNat:Int)≤90)=false:=decide_eq_false (by omega)
      go_wp2_with (go_at_call 44;refine (digit_any c _).mono ?_;rintro e w2 ⟨rfl,rfl⟩;rw [HD.out])
      go_ret
      exact ⟨by rw [HIF.out];rfl,rfl⟩
    ·have k0:((k:Int) == 0)=false:=by rw [beq_eq_false_iff_ne];omega
     by_cases hy:c.toNat=45∨c.toNat=46
     ·have HO2:=Lib.hid (show okFrom (k+1) (l.drop (k+1))=ans by
       have:=HOK.out
       rw [show decide (k≠0)=true from decide_eq_true hk0,show (decide (c.toNat=45) || decide (c.toNat=46))=true by simpa using hy] at this
       simpa using this)
      clear hcs HOK hk0
      rcases hy with c1 | c1
      case' inl =>
       have e45:((c.toNat:Int) == 45)=true:=by rw [beq_iff_eq];omega
       have c2:44 < c.toNat:=by omega
       have c3:c.toNat < 46:=by omega
       clear c1
      case' inr =>
       have e45:((c.toNat:Int) == 45)=false:=by rw [beq_eq_false_iff_ne];omega
       have e46:((c.toNat:Int) == 46)=true:=by rw [beq_iff_eq];omega
       have n45:((c.toNat:Int) != 45)=true:=by rw [bne_iff_ne];omega
       have c2:45 < c.toNat:=by omega
       have c3:c.toNat < 47:=by omega
       clear c1
      all_goals
       go_wp2_with (go_at_call 44;refine (digit_any c _).mono ?_;rintro e w2 ⟨rfl,rfl⟩;rw [HD.out])
       go_roundw
       case rel=>exact ⟨k+1,by go_num,by omega,HO2.out,trivial⟩
       case measure=>simp [intOf];omega
     ·have hans:ans=false:=by
       rw [←HOK.out,show (decide (c.toNat=45) || decide (c.toNat=46))=false by
        rw [decide_eq_false (show ¬ c.toNat=45 by omega),decide_eq_false (show ¬ c.toNat=46 by omega)];rfl]
       simp
      have HIF:=Lib.hid (show isName l=false by rw [HI.out,hans];simp)
      have e45:((c.toNat:Int) == 45)=false:=by rw [beq_eq_false_iff_ne];omega
      have e46:((c.toNat:Int) == 46)=false:=by rw [beq_eq_false_iff_ne];omega
      have n45:((c.toNat:Int) != 45)=true:=by rw [bne_iff_ne];omega
      have n46:((c.toNat:Int) != 46)=true:=by rw [bne_iff_ne];omega
      have hcs2:c.toNat < 45∨(46 < c.toNat∧c.toNat < 48)∨(57 < c.toNat∧c.toNat < 65)∨(90 < c.toNat∧c.toNat < 97)∨122 < c.toNat:=by omega
      clear hcs HOK hk0 hy hans
      rcases hcs2 with c1 | ⟨c1,c2⟩ | ⟨c1,c2⟩ | ⟨c1,c2⟩ | c1
      all_goals
       try have d122:decide ((c.toNat:Int)≤122)=false:=decide_eq_false (by omega)
       try have d90:decide ((c.toNat:Int)≤90)=false:=decide_eq_false (by omega)
       go_wp2_with (go_at_call 44;refine (digit_any c _).mono ?_;rintro e w2 ⟨rfl,rfl⟩;rw [HD.out])
       go_ret
       exact ⟨by rw [HIF.out];rfl,rfl⟩
  ·have hkl:l.length≤k:=by rw [←HZ.out];omega
   have hans:ans=true:=by rw [←(show okFrom k (l.drop k)=ans from hok)];exact okFrom_end l hkl
   have hnl:isName l=nameLast l:=by rw [HI.out,hans];simp
   have hz:=HZ.out
   clear hok hkl hans HN
   by_cases h0:0 < (str l).size
   ·have q0:decide (0 < ((str l).size:Int))=true:=decide_eq_true (by omega)
    by_cases h1:(str l).size≤32
    ·have q1:decide (((str l).size:Int)≤32)=true:=decide_eq_true (by omega)
     have HNL:=Lib.hid (show isName l=true by
      rw [hnl];unfold nameLast;rw [decide_eq_true (show 0 < l.length by omega),decide_eq_true (show l.length≤32 by omega)];rfl)
     clear hz hnl
     go_wp2
     go_ret
     exact ⟨by rw [HNL.out];rfl,rfl⟩
    ·have q1:decide (((str l).size:Int)≤32)=false:=decide_eq_false (by omega)
     have HNL:=Lib.hid (show isName l=false by
      rw [hnl];unfold nameLast;rw [decide_eq_false (show ¬ l.length≤32 by omega)];simp)
     clear hz hnl
     go_wp2
     go_ret
     exact ⟨by rw [HNL.out];rfl,rfl⟩
   ·have q0:decide (0 < ((str l).size:Int))=false:=decide_eq_false (by omega)
    have HNL:=Lib.hid (show isName l=false by
     rw [hnl];unfold nameLast;rw [decide_eq_false (show ¬ 0 < l.length by omega)];rfl)
    clear hz hnl
    go_wp2
    go_ret
    exact ⟨by rw [HNL.out];rfl,rfl⟩
end Go.Proofs.YtekcjfdllclphaaGreatDoor.gn
end
