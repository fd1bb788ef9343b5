/- The document's answer: Check. (Written by gen_diS.py.) -/
import Derived.Test.YtekcjfdllclphaaGreatDoorMQbOrG
import Derived.Test.YtekcjfdllclphaaGreatDoorMQbDiK
import Derived.Test.YtekcjfdllclphaaGreatDoorMQbUnI
set_option linter.unusedVariables false
set_option linter.unusedSimpArgs false
section
namespace Go.Proofs.YtekcjfdllclphaaGreatDoor.gn
open Go.RowKit
open Go.Proofs.YtekcjfdllclphaaGreatDoor.un
open Go.Proofs.YtekcjfdllclphaaGreatDoor.di
theorem cE_yes {d:Dir} (h:chk d=true):cE d=0:=by unfold cE;rw [if_pos h]
theorem cE_no {d:Dir} (h:¬ chk d=true):cE d=140:=by unfold cE;rw [if_neg h]
set_option maxRecDepth 100000 in
set_option maxHeartbeats 1600000 in
theorem dcheck_no (d:Dir) (h:DW d) (hk:¬ (1≤d.kind∧d.kind≤6)) (w:World):Calls Tryz.prog 77 #[dV d] w (Told (.int .i64 (cE d)) w):=by
 have HE:=Lib.hid (cE_no (d:=d) fun hc=>hk ((chk_iff d).1 hc).1)
 have HB:=Lib.hid (show Below w.heap.size w (w.alloc (.cells (dcs d) 80)) from (Below.refl _ _).alloc (Nat.le_refl _) _)
 have hV:dV d=.agg #[.int .u8 (d.kind:Nat),.string (str d.name),.string (str d.pool),.int .i64 d.size,.bool d.opn]:=rfl
 rw [hV]
 unfold dcs at HB
 clear hV h
 have hc:d.kind=0∨6 < d.kind:=by omega
 clear hk
 obtain ⟨k,n,p,z,o⟩:=d
 dsimp only at HB hc ⊢
 rcases hc with rfl | hc
 ·go_enter Tryz.func77,Tryz.ntmps77
  go_wp2
  go_ret
  exact ⟨by rw [HE.out];rfl,HB.out⟩
 ·have h1:decide ((k:Int) < 1)=false:=decide_eq_false (by omega)
  have h2:decide (6 < (k:Int))=true:=decide_eq_true (by omega)
  go_enter Tryz.func77,Tryz.ntmps77
  go_wp2
  go_ret
  exact ⟨by rw [HE.out];rfl,HB.out⟩
set_option maxRecDepth 100000 in
set_option maxHeartbeats 32000000 in
theorem dcheck_yes (d:Dir) (h:DW d) (hk:1≤d.kind∧d.kind≤6) (hn:d.name.length≤1000) (hp:d.pool.length≤1000) (w:World):Calls Tryz.prog 77 #[dV d] w (Told (.int .i64 (cE d)) w):=by
 have hV:dV d=.agg #[.int .u8 (d.kind:Nat),.string (str d.name),.string (str d.pool),.int .i64 d.size,.bool d.opn]:=rfl
 rw [hV]
 have HB:=Lib.hid (show Below w.heap.size w (w.alloc (.cells #[.int .u8 (d.kind:Nat),.string (str d.name),.string (str d.pool),.int .i64 d.size,.bool d.opn] 80)) from (Below.refl _ _).alloc (Nat.le_refl _) _)
 have hchk:=chk_iff d
 have HAK:=Lib.hid (fun W=>dasks_any d.kind hk W)
 have HNN:=Lib.hid (fun W=>dname_any d.name (by omega) W)
 have HNP:=Lib.hid (fun W=>dname_any d.pool (by omega) W)
 obtain ⟨ce,hce⟩:∃ ce,cE d=ce:=⟨_,rfl⟩
 have HCE:=Lib.hid hce
 rw [hce]
 clear hV h hn hp hce
 obtain ⟨k,n,p,z,o⟩:=d
 dsimp only at HB hchk HAK HNN HNP hk ⊢
 have k1:decide ((k:Int) < 1)=false:=decide_eq_false (by omega)
 have k2:decide (6 < (k:Int))=false:=decide_eq_false (by omega)
 generalize hasSize k=sB at hchk HAK
 generalize hasName k=nB at hchk HAK
 generalize hasPool k=pB at hchk HAK
 generalize isName n=iN at hchk HNN
 generalize isName p=iP at hchk HNP
 obtain ⟨gz,hgz⟩:∃ gz,decide (0 < z)=gz:=⟨_,rfl⟩
 cases sB
 ·cases gz
  ·have g1:=hgz
   have g2:¬ 0 < z:=by simpa using hgz
   by_cases z1:z < 0
   ·have z2:decide (z < 0)=true:=decide_eq_true z1
    have HE:=Lib.hid (show ce=140 by rw [←HCE.out];exact cE_no fun hc=>by have:=hchk.1 hc;simp_all <;> omega)
    clear hchk HCE hgz
    try clear hn
    try clear hp
    go_enter Tryz.func77,Tryz.ntmps77
    go_wp2_with (first
     | (go_at_call 76;refine (HAK.out _).mono ?_;rintro e w1 ⟨rfl,rfl⟩)
     | (go_at_call 55;(with_reducible refine (HNN.out _).mono ?_);rintro e w1 ⟨rfl,rfl⟩)
     | (go_at_call 55;(with_reducible refine (HNP.out _).mono ?_);rintro e w1 ⟨rfl,rfl⟩))
    go_ret
    exact ⟨by rw [HE.out];rfl,HB.out⟩
   ·have z2:decide (z < 0)=false:=decide_eq_false z1
    have z3:decide (1099511627776 < z)=false:=decide_eq_false (by omega)
    cases nB
    ·cases iN
     ·have en:=True.intro
      by_cases hn:n=[]
      ·obtain ⟨qn,rn⟩:=lit_yes hn
       cases pB
       ·cases iP
        ·have ep:=True.intro
         by_cases hp:p=[]
         ·obtain ⟨qp,rp⟩:=lit_yes hp
          cases o
          ·have eo:=True.intro
           have HE:=Lib.hid (show ce=0 by rw [←HCE.out];exact cE_yes (hchk.2 (by simp_all <;> omega)))
           clear hchk HCE hgz
           try clear hn
           try clear hp
           go_enter Tryz.func77,Tryz.ntmps77
           go_wp2_with (first
            | (go_at_call 76;refine (HAK.out _).mono ?_;rintro e w1 ⟨rfl,rfl⟩)
            | (go_at_call 55;(with_reducible refine (HNN.out _).mono ?_);rintro e w1 ⟨rfl,rfl⟩)
            | (go_at_call 55;(with_reducible refine (HNP.out _).mono ?_);rintro e w1 ⟨rfl,rfl⟩))
           go_ret
           exact ⟨by rw [HE.out];rfl,HB.out⟩
          ·by_cases k4:k=4
           ·subst k4
            clear k1 k2
            have HE:=Lib.hid (show ce=0 by rw [←HCE.out];exact cE_yes (hchk.2 (by simp_all <;> omega)))
            clear hchk HCE hgz
            try clear hn
            try clear hp
            go_enter Tryz.func77,Tryz.ntmps77
            go_wp2_with (first
             | (go_at_call 76;refine (HAK.out _).mono ?_;rintro e w1 ⟨rfl,rfl⟩)
             | (go_at_call 55;(with_reducible refine (HNN.out _).mono ?_);rintro e w1 ⟨rfl,rfl⟩)
             | (go_at_call 55;(with_reducible refine (HNP.out _).mono ?_);rintro e w1 ⟨rfl,rfl⟩))
            go_ret
            exact ⟨by rw [HE.out];rfl,HB.out⟩
           ·have k5:((k:Int) == 4)=false:=by rw [beq_eq_false_iff_ne];omega
            have HE:=Lib.hid (show ce=140 by rw [←HCE.out];exact cE_no fun hc=>by have:=hchk.1 hc;simp_all <;> omega)
            clear hchk HCE hgz
            try clear hn
            try clear hp
            go_enter Tryz.func77,Tryz.ntmps77
            go_wp2_with (first
             | (go_at_call 76;refine (HAK.out _).mono ?_;rintro e w1 ⟨rfl,rfl⟩)
             | (go_at_call 55;(with_reducible refine (HNN.out _).mono ?_);rintro e w1 ⟨rfl,rfl⟩)
             | (go_at_call 55;(with_reducible refine (HNP.out _).mono ?_);rintro e w1 ⟨rfl,rfl⟩))
            go_ret
            exact ⟨by rw [HE.out];rfl,HB.out⟩
         ·obtain ⟨qp,rp⟩:=lit_no hp
          have HE:=Lib.hid (show ce=140 by rw [←HCE.out];exact cE_no fun hc=>by have:=hchk.1 hc;simp_all <;> omega)
          clear hchk HCE hgz
          try clear hn
          try clear hp
          go_enter Tryz.func77,Tryz.ntmps77
          go_wp2_with (first
           | (go_at_call 76;refine (HAK.out _).mono ?_;rintro e w1 ⟨rfl,rfl⟩)
           | (go_at_call 55;(with_reducible refine (HNN.out _).mono ?_);rintro e w1 ⟨rfl,rfl⟩)
           | (go_at_call 55;(with_reducible refine (HNP.out _).mono ?_);rintro e w1 ⟨rfl,rfl⟩))
          go_ret
          exact ⟨by rw [HE.out];rfl,HB.out⟩
        ·have ep:=True.intro
         have HE:=Lib.hid (show ce=140 by rw [←HCE.out];exact cE_no fun hc=>by have:=hchk.1 hc;simp_all <;> omega)
         clear hchk HCE hgz
         try clear hn
         try clear hp
         go_enter Tryz.func77,Tryz.ntmps77
         go_wp2_with (first
          | (go_at_call 76;refine (HAK.out _).mono ?_;rintro e w1 ⟨rfl,rfl⟩)
          | (go_at_call 55;(with_reducible refine (HNN.out _).mono ?_);rintro e w1 ⟨rfl,rfl⟩)
          | (go_at_call 55;(with_reducible refine (HNP.out _).mono ?_);rintro e w1 ⟨rfl,rfl⟩))
         go_ret
         exact ⟨by rw [HE.out];rfl,HB.out⟩
       ·cases iP
        ·have ep:=True.intro
         have HE:=Lib.hid (show ce=140 by rw [←HCE.out];exact cE_no fun hc=>by have:=hchk.1 hc;simp_all <;> omega)
         clear hchk HCE hgz
         try clear hn
         try clear hp
         go_enter Tryz.func77,Tryz.ntmps77
         go_wp2_with (first
          | (go_at_call 76;refine (HAK.out _).mono ?_;rintro e w1 ⟨rfl,rfl⟩)
          | (go_at_call 55;(with_reducible refine (HNN.out _).mono ?_);rintro e w1 ⟨rfl,rfl⟩)
          | (go_at_call 55;(with_reducible refine (HNP.out _).mono ?_);rintro e w1 ⟨rfl,rfl⟩))
         go_ret
         exact ⟨by rw [HE.out];rfl,HB.out⟩
        ·have ep:=True.intro
         cases o
         ·have eo:=True.intro
          have HE:=Lib.hid (show ce=0 by rw [←HCE.out];exact cE_yes (hchk.2 (by simp_all <;> omega)))
          clear hchk HCE hgz
          try clear hn
          try clear hp
          go_enter Tryz.func77,Tryz.ntmps77
          go_wp2_with (first
           | (go_at_call 76;refine (HAK.out _).mono ?_;rintro e w1 ⟨rfl,rfl⟩)
           | (go_at_call 55;(with_reducible refine (HNN.out _).mono ?_);rintro e w1 ⟨rfl,rfl⟩)
           | (go_at_call 55;(with_reducible refine (HNP.out _).mono ?_);rintro e w1 ⟨rfl,rfl⟩))
          go_ret
          exact ⟨by rw [HE.out];rfl,HB.out⟩
         ·by_cases k4:k=4
          ·subst k4
           clear k1 k2
           have HE:=Lib.hid (show ce=0 by rw [←HCE.out];exact cE_yes (hchk.2 (by simp_all <;> omega)))
           clear hchk HCE hgz
           try clear hn
           try clear hp
           go_enter Tryz.func77,Tryz.ntmps77
           go_wp2_with (first
            | (go_at_call 76;refine (HAK.out _).mono ?_;rintro e w1 ⟨rfl,rfl⟩)
            | (go_at_call 55;(with_reducible refine (HNN.out _).mono ?_);rintro e w1 ⟨rfl,rfl⟩)
            | (go_at_call 55;(with_reducible refine (HNP.out _).mono ?_);rintro e w1 ⟨rfl,rfl⟩))
           go_ret
           exact ⟨by rw [HE.out];rfl,HB.out⟩
          ·have k5:((k:Int) == 4)=false:=by rw [beq_eq_false_iff_ne];omega
           have HE:=Lib.hid (show ce=140 by rw [←HCE.out];exact cE_no fun hc=>by have:=hchk.1 hc;simp_all <;> omega)
           clear hchk HCE hgz
           try clear hn
           try clear hp
           go_enter Tryz.func77,Tryz.ntmps77
           go_wp2_with (first
            | (go_at_call 76;refine (HAK.out _).mono ?_;rintro e w1 ⟨rfl,rfl⟩)
            | (go_at_call 55;(with_reducible refine (HNN.out _).mono ?_);rintro e w1 ⟨rfl,rfl⟩)
            | (go_at_call 55;(with_reducible refine (HNP.out _).mono ?_);rintro e w1 ⟨rfl,rfl⟩))
           go_ret
           exact ⟨by rw [HE.out];rfl,HB.out⟩
      ·obtain ⟨qn,rn⟩:=lit_no hn
       have HE:=Lib.hid (show ce=140 by rw [←HCE.out];exact cE_no fun hc=>by have:=hchk.1 hc;simp_all <;> omega)
       clear hchk HCE hgz
       try clear hn
       try clear hp
       go_enter Tryz.func77,Tryz.ntmps77
       go_wp2_with (first
        | (go_at_call 76;refine (HAK.out _).mono ?_;rintro e w1 ⟨rfl,rfl⟩)
        | (go_at_call 55;(with_reducible refine (HNN.out _).mono ?_);rintro e w1 ⟨rfl,rfl⟩)
        | (go_at_call 55;(with_reducible refine (HNP.out _).mono ?_);rintro e w1 ⟨rfl,rfl⟩))
       go_ret
       exact ⟨by rw [HE.out];rfl,HB.out⟩
     ·have en:=True.intro
      have HE:=Lib.hid (show ce=140 by rw [←HCE.out];exact cE_no fun hc=>by have:=hchk.1 hc;simp_all <;> omega)
      clear hchk HCE hgz
      try clear hn
      try clear hp
      go_enter Tryz.func77,Tryz.ntmps77
      go_wp2_with (first
       | (go_at_call 76;refine (HAK.out _).mono ?_;rintro e w1 ⟨rfl,rfl⟩)
       | (go_at_call 55;(with_reducible refine (HNN.out _).mono ?_);rintro e w1 ⟨rfl,rfl⟩)
       | (go_at_call 55;(with_reducible refine (HNP.out _).mono ?_);rintro e w1 ⟨rfl,rfl⟩))
      go_ret
      exact ⟨by rw [HE.out];rfl,HB.out⟩
    ·cases iN
     ·have en:=True.intro
      have HE:=Lib.hid (show ce=140 by rw [←HCE.out];exact cE_no fun hc=>by have:=hchk.1 hc;simp_all <;> omega)
      clear hchk HCE hgz
      try clear hn
      try clear hp
      go_enter Tryz.func77,Tryz.ntmps77
      go_wp2_with (first
       | (go_at_call 76;refine (HAK.out _).mono ?_;rintro e w1 ⟨rfl,rfl⟩)
       | (go_at_call 55;(with_reducible refine (HNN.out _).mono ?_);rintro e w1 ⟨rfl,rfl⟩)
       | (go_at_call 55;(with_reducible refine (HNP.out _).mono ?_);rintro e w1 ⟨rfl,rfl⟩))
      go_ret
      exact ⟨by rw [HE.out];rfl,HB.out⟩
     ·have en:=True.intro
      cases pB
      ·cases iP
       ·have ep:=True.intro
        by_cases hp:p=[]
        ·obtain ⟨qp,rp⟩:=lit_yes hp
         cases o
         ·have eo:=True.intro
          have HE:=Lib.hid (show ce=0 by rw [←HCE.out];exact cE_yes (hchk.2 (by simp_all <;> omega)))
          clear hchk HCE hgz
          try clear hn
          try clear hp
          go_enter Tryz.func77,Tryz.ntmps77
          go_wp2_with (first
           | (go_at_call 76;refine (HAK.out _).mono ?_;rintro e w1 ⟨rfl,rfl⟩)
           | (go_at_call 55;(with_reducible refine (HNN.out _).mono ?_);rintro e w1 ⟨rfl,rfl⟩)
           | (go_at_call 55;(with_reducible refine (HNP.out _).mono ?_);rintro e w1 ⟨rfl,rfl⟩))
          go_ret
          exact ⟨by rw [HE.out];rfl,HB.out⟩
         ·by_cases k4:k=4
          ·subst k4
           clear k1 k2
           have HE:=Lib.hid (show ce=0 by rw [←HCE.out];exact cE_yes (hchk.2 (by simp_all <;> omega)))
           clear hchk HCE hgz
           try clear hn
           try clear hp
           go_enter Tryz.func77,Tryz.ntmps77
           go_wp2_with (first
            | (go_at_call 76;refine (HAK.out _).mono ?_;rintro e w1 ⟨rfl,rfl⟩)
            | (go_at_call 55;(with_reducible refine (HNN.out _).mono ?_);rintro e w1 ⟨rfl,rfl⟩)
            | (go_at_call 55;(with_reducible refine (HNP.out _).mono ?_);rintro e w1 ⟨rfl,rfl⟩))
           go_ret
           exact ⟨by rw [HE.out];rfl,HB.out⟩
          ·have k5:((k:Int) == 4)=false:=by rw [beq_eq_false_iff_ne];omega
           have HE:=Lib.hid (show ce=140 by rw [←HCE.out];exact cE_no fun hc=>by have:=hchk.1 hc;simp_all <;> omega)
           clear hchk HCE hgz
           try clear hn
           try clear hp
           go_enter Tryz.func77,Tryz.ntmps77
           go_wp2_with (first
            | (go_at_call 76;refine (HAK.out _).mono ?_;rintro e w1 ⟨rfl,rfl⟩)
            | (go_at_call 55;(with_reducible refine (HNN.out _).mono ?_);rintro e w1 ⟨rfl,rfl⟩)
            | (go_at_call 55;(with_reducible refine (HNP.out _).mono ?_);rintro e w1 ⟨rfl,rfl⟩))
           go_ret
           exact ⟨by rw [HE.out];rfl,HB.out⟩
        ·obtain ⟨qp,rp⟩:=lit_no hp
         have HE:=Lib.hid (show ce=140 by rw [←HCE.out];exact cE_no fun hc=>by have:=hchk.1 hc;simp_all <;> omega)
         clear hchk HCE hgz
         try clear hn
         try clear hp
         go_enter Tryz.func77,Tryz.ntmps77
         go_wp2_with (first
          | (go_at_call 76;refine (HAK.out _).mono ?_;rintro e w1 ⟨rfl,rfl⟩)
          | (go_at_call 55;(with_reducible refine (HNN.out _).mono ?_);rintro e w1 ⟨rfl,rfl⟩)
          | (go_at_call 55;(with_reducible refine (HNP.out _).mono ?_);rintro e w1 ⟨rfl,rfl⟩))
         go_ret
         exact ⟨by rw [HE.out];rfl,HB.out⟩
       ·have ep:=True.intro
        have HE:=Lib.hid (show ce=140 by rw [←HCE.out];exact cE_no fun hc=>by have:=hchk.1 hc;simp_all <;> omega)
        clear hchk HCE hgz
        try clear hn
        try clear hp
        go_enter Tryz.func77,Tryz.ntmps77
        go_wp2_with (first
         | (go_at_call 76;refine (HAK.out _).mono ?_;rintro e w1 ⟨rfl,rfl⟩)
         | (go_at_call 55;(with_reducible refine (HNN.out _).mono ?_);rintro e w1 ⟨rfl,rfl⟩)
         | (go_at_call 55;(with_reducible refine (HNP.out _).mono ?_);rintro e w1 ⟨rfl,rfl⟩))
        go_ret
        exact ⟨by rw [HE.out];rfl,HB.out⟩
      ·cases iP
       ·have ep:=True.intro
        have HE:=Lib.hid (show ce=140 by rw [←HCE.out];exact cE_no fun hc=>by have:=hchk.1 hc;simp_all <;> omega)
        clear hchk HCE hgz
        try clear hn
        try clear hp
        go_enter Tryz.func77,Tryz.ntmps77
        go_wp2_with (first
         | (go_at_call 76;refine (HAK.out _).mono ?_;rintro e w1 ⟨rfl,rfl⟩)
         | (go_at_call 55;(with_reducible refine (HNN.out _).mono ?_);rintro e w1 ⟨rfl,rfl⟩)
         | (go_at_call 55;(with_reducible refine (HNP.out _).mono ?_);rintro e w1 ⟨rfl,rfl⟩))
        go_ret
        exact ⟨by rw [HE.out];rfl,HB.out⟩
       ·have ep:=True.intro
        cases o
        ·have eo:=True.intro
         have HE:=Lib.hid (show ce=0 by rw [←HCE.out];exact cE_yes (hchk.2 (by simp_all <;> omega)))
         clear hchk HCE hgz
         try clear hn
         try clear hp
         go_enter Tryz.func77,Tryz.ntmps77
         go_wp2_with (first
          | (go_at_call 76;refine (HAK.out _).mono ?_;rintro e w1 ⟨rfl,rfl⟩)
          | (go_at_call 55;(with_reducible refine (HNN.out _).mono ?_);rintro e w1 ⟨rfl,rfl⟩)
          | (go_at_call 55;(with_reducible refine (HNP.out _).mono ?_);rintro e w1 ⟨rfl,rfl⟩))
         go_ret
         exact ⟨by rw [HE.out];rfl,HB.out⟩
        ·by_cases k4:k=4
         ·subst k4
          clear k1 k2
          have HE:=Lib.hid (show ce=0 by rw [←HCE.out];exact cE_yes (hchk.2 (by simp_all <;> omega)))
          clear hchk HCE hgz
          try clear hn
          try clear hp
          go_enter Tryz.func77,Tryz.ntmps77
          go_wp2_with (first
           | (go_at_call 76;refine (HAK.out _).mono ?_;rintro e w1 ⟨rfl,rfl⟩)
           | (go_at_call 55;(with_reducible refine (HNN.out _).mono ?_);rintro e w1 ⟨rfl,rfl⟩)
           | (go_at_call 55;(with_reducible refine (HNP.out _).mono ?_);rintro e w1 ⟨rfl,rfl⟩))
          go_ret
          exact ⟨by rw [HE.out];rfl,HB.out⟩
         ·have k5:((k:Int) == 4)=false:=by rw [beq_eq_false_iff_ne];omega
          have HE:=Lib.hid (show ce=140 by rw [←HCE.out];exact cE_no fun hc=>by have:=hchk.1 hc;simp_all <;> omega)
          clear hchk HCE hgz
          try clear hn
          try clear hp
          go_enter Tryz.func77,Tryz.ntmps77
          go_wp2_with (first
           | (go_at_call 76;refine (HAK.out _).mono ?_;rintro e w1 ⟨rfl,rfl⟩)
           | (go_at_call 55;(with_reducible refine (HNN.out _).mono ?_);rintro e w1 ⟨rfl,rfl⟩)
           | (go_at_call 55;(with_reducible refine (HNP.out _).mono ?_);rintro e w1 ⟨rfl,rfl⟩))
          go_ret
          exact ⟨by rw [HE.out];rfl,HB.out⟩
  ·have g1:=hgz
   have g2:0 < z:=by simpa using hgz
   have HE:=Lib.hid (show ce=140 by rw [←HCE.out];exact cE_no fun hc=>by have:=hchk.1 hc;simp_all <;> omega)
   clear hchk HCE hgz
   try clear hn
   try clear hp
   go_enter Tryz.func77,Tryz.ntmps77
   go_wp2_with (first
    | (go_at_call 76;refine (HAK.out _).mono ?_;rintro e w1 ⟨rfl,rfl⟩)
    | (go_at_call 55;(with_reducible refine (HNN.out _).mono ?_);rintro e w1 ⟨rfl,rfl⟩)
    | (go_at_call 55;(with_reducible refine (HNP.out _).mono ?_);rintro e w1 ⟨rfl,rfl⟩))
   go_ret
   exact ⟨by rw [HE.out];rfl,HB.out⟩
 ·cases gz
  ·have g1:=hgz
   have g2:¬ 0 < z:=by simpa using hgz
   have HE:=Lib.hid (show ce=140 by rw [←HCE.out];exact cE_no fun hc=>by have:=hchk.1 hc;simp_all <;> omega)
   clear hchk HCE hgz
   try clear hn
   try clear hp
   go_enter Tryz.func77,Tryz.ntmps77
   go_wp2_with (first
    | (go_at_call 76;refine (HAK.out _).mono ?_;rintro e w1 ⟨rfl,rfl⟩)
    | (go_at_call 55;(with_reducible refine (HNN.out _).mono ?_);rintro e w1 ⟨rfl,rfl⟩)
    | (go_at_call 55;(with_reducible refine (HNP.out _).mono ?_);rintro e w1 ⟨rfl,rfl⟩))
   go_ret
   exact ⟨by rw [HE.out];rfl,HB.out⟩
  ·have g1:=hgz
   have g2:0 < z:=by simpa using hgz
   have z2:decide (z < 0)=false:=decide_eq_false (by omega)
   by_cases z1:1099511627776 < z
   ·have z3:decide (1099511627776 < z)=true:=decide_eq_true z1
    have HE:=Lib.hid (show ce=140 by rw [←HCE.out];exact cE_no fun hc=>by have:=hchk.1 hc;simp_all <;> omega)
    clear hchk HCE hgz
    try clear hn
    try clear hp
    go_enter Tryz.func77,Tryz.ntmps77
    go_wp2_with (first
     | (go_at_call 76;refine (HAK.out _).mono ?_;rintro e w1 ⟨rfl,rfl⟩)
     | (go_at_call 55;(with_reducible refine (HNN.out _).mono ?_);rintro e w1 ⟨rfl,rfl⟩)
     | (go_at_call 55;(with_reducible refine (HNP.out _).mono ?_);rintro e w1 ⟨rfl,rfl⟩))
    go_ret
    exact ⟨by rw [HE.out];rfl,HB.out⟩
   ·have z3:decide (1099511627776 < z)=false:=decide_eq_false z1
    cases nB
    ·cases iN
     ·have en:=True.intro
      by_cases hn:n=[]
      ·obtain ⟨qn,rn⟩:=lit_yes hn
       cases pB
       ·cases iP
        ·have ep:=True.intro
         by_cases hp:p=[]
         ·obtain ⟨qp,rp⟩:=lit_yes hp
          cases o
          ·have eo:=True.intro
           have HE:=Lib.hid (show ce=0 by rw [←HCE.out];exact cE_yes (hchk.2 (by simp_all <;> omega)))
           clear hchk HCE hgz
           try clear hn
           try clear hp
           go_enter Tryz.func77,Tryz.ntmps77
           go_wp2_with (first
            | (go_at_call 76;refine (HAK.out _).mono ?_;rintro e w1 ⟨rfl,rfl⟩)
            | (go_at_call 55;(with_reducible refine (HNN.out _).mono ?_);rintro e w1 ⟨rfl,rfl⟩)
            | (go_at_call 55;(with_reducible refine (HNP.out _).mono ?_);rintro e w1 ⟨rfl,rfl⟩))
           go_ret
           exact ⟨by rw [HE.out];rfl,HB.out⟩
          ·by_cases k4:k=4
           ·subst k4
            clear k1 k2
            have HE:=Lib.hid (show ce=0 by rw [←HCE.out];exact cE_yes (hchk.2 (by simp_all <;> omega)))
            clear hchk HCE hgz
            try clear hn
            try clear hp
            go_enter Tryz.func77,Tryz.ntmps77
            go_wp2_with (first
             | (go_at_call 76;refine (HAK.out _).mono ?_;rintro e w1 ⟨rfl,rfl⟩)
             | (go_at_call 55;(with_reducible refine (HNN.out _).mono ?_);rintro e w1 ⟨rfl,rfl⟩)
             | (go_at_call 55;(with_reducible refine (HNP.out _).mono ?_);rintro e w1 ⟨rfl,rfl⟩))
            go_ret
            exact ⟨by rw [HE.out];rfl,HB.out⟩
           ·have k5:((k:Int) == 4)=false:=by rw [beq_eq_false_iff_ne];omega
            have HE:=Lib.hid (show ce=140 by rw [←HCE.out];exact cE_no fun hc=>by have:=hchk.1 hc;simp_all <;> omega)
            clear hchk HCE hgz
            try clear hn
            try clear hp
            go_enter Tryz.func77,Tryz.ntmps77
            go_wp2_with (first
             | (go_at_call 76;refine (HAK.out _).mono ?_;rintro e w1 ⟨rfl,rfl⟩)
             | (go_at_call 55;(with_reducible refine (HNN.out _).mono ?_);rintro e w1 ⟨rfl,rfl⟩)
             | (go_at_call 55;(with_reducible refine (HNP.out _).mono ?_);rintro e w1 ⟨rfl,rfl⟩))
            go_ret
            exact ⟨by rw [HE.out];rfl,HB.out⟩
         ·obtain ⟨qp,rp⟩:=lit_no hp
          have HE:=Lib.hid (show ce=140 by rw [←HCE.out];exact cE_no fun hc=>by have:=hchk.1 hc;simp_all <;> omega)
          clear hchk HCE hgz
          try clear hn
          try clear hp
          go_enter Tryz.func77,Tryz.ntmps77
          go_wp2_with (first
           | (go_at_call 76;refine (HAK.out _).mono ?_;rintro e w1 ⟨rfl,rfl⟩)
           | (go_at_call 55;(with_reducible refine (HNN.out _).mono ?_);rintro e w1 ⟨rfl,rfl⟩)
           | (go_at_call 55;(with_reducible refine (HNP.out _).mono ?_);rintro e w1 ⟨rfl,rfl⟩))
          go_ret
          exact ⟨by rw [HE.out];rfl,HB.out⟩
        ·have ep:=True.intro
         have HE:=Lib.hid (show ce=140 by rw [←HCE.out];exact cE_no fun hc=>by have:=hchk.1 hc;simp_all <;> omega)
         clear hchk HCE hgz
         try clear hn
         try clear hp
         go_enter Tryz.func77,Tryz.ntmps77
         go_wp2_with (first
          | (go_at_call 76;refine (HAK.out _).mono ?_;rintro e w1 ⟨rfl,rfl⟩)
          | (go_at_call 55;(with_reducible refine (HNN.out _).mono ?_);rintro e w1 ⟨rfl,rfl⟩)
          | (go_at_call 55;(with_reducible refine (HNP.out _).mono ?_);rintro e w1 ⟨rfl,rfl⟩))
         go_ret
         exact ⟨by rw [HE.out];rfl,HB.out⟩
       ·cases iP
        ·have ep:=True.intro
         have HE:=Lib.hid (show ce=140 by rw [←HCE.out];exact cE_no fun hc=>by have:=hchk.1 hc;simp_all <;> omega)
         clear hchk HCE hgz
         try clear hn
         try clear hp
         go_enter Tryz.func77,Tryz.ntmps77
         go_wp2_with (first
          | (go_at_call 76;refine (HAK.out _).mono ?_;rintro e w1 ⟨rfl,rfl⟩)
          | (go_at_call 55;(with_reducible refine (HNN.out _).mono ?_);rintro e w1 ⟨rfl,rfl⟩)
          | (go_at_call 55;(with_reducible refine (HNP.out _).mono ?_);rintro e w1 ⟨rfl,rfl⟩))
         go_ret
         exact ⟨by rw [HE.out];rfl,HB.out⟩
        ·have ep:=True.intro
         cases o
         ·have eo:=True.intro
          have HE:=Lib.hid (show ce=0 by rw [←HCE.out];exact cE_yes (hchk.2 (by simp_all <;> omega)))
          clear hchk HCE hgz
          try clear hn
          try clear hp
          go_enter Tryz.func77,Tryz.ntmps77
          go_wp2_with (first
           | (go_at_call 76;refine (HAK.out _).mono ?_;rintro e w1 ⟨rfl,rfl⟩)
           | (go_at_call 55;(with_reducible refine (HNN.out _).mono ?_);rintro e w1 ⟨rfl,rfl⟩)
           | (go_at_call 55;(with_reducible refine (HNP.out _).mono ?_);rintro e w1 ⟨rfl,rfl⟩))
          go_ret
          exact ⟨by rw [HE.out];rfl,HB.out⟩
         ·by_cases k4:k=4
          ·subst k4
           clear k1 k2
           have HE:=Lib.hid (show ce=0 by rw [←HCE.out];exact cE_yes (hchk.2 (by simp_all <;> omega)))
           clear hchk HCE hgz
           try clear hn
           try clear hp
           go_enter Tryz.func77,Tryz.ntmps77
           go_wp2_with (first
            | (go_at_call 76;refine (HAK.out _).mono ?_;rintro e w1 ⟨rfl,rfl⟩)
            | (go_at_call 55;(with_reducible refine (HNN.out _).mono ?_);rintro e w1 ⟨rfl,rfl⟩)
            | (go_at_call 55;(with_reducible refine (HNP.out _).mono ?_);rintro e w1 ⟨rfl,rfl⟩))
           go_ret
           exact ⟨by rw [HE.out];rfl,HB.out⟩
          ·have k5:((k:Int) == 4)=false:=by rw [beq_eq_false_iff_ne];omega
           have HE:=Lib.hid (show ce=140 by rw [←HCE.out];exact cE_no fun hc=>by have:=hchk.1 hc;simp_all <;> omega)
           clear hchk HCE hgz
           try clear hn
           try clear hp
           go_enter Tryz.func77,Tryz.ntmps77
           go_wp2_with (first
            | (go_at_call 76;refine (HAK.out _).mono ?_;rintro e w1 ⟨rfl,rfl⟩)
            | (go_at_call 55;(with_reducible refine (HNN.out _).mono ?_);rintro e w1 ⟨rfl,rfl⟩)
            | (go_at_call 55;(with_reducible refine (HNP.out _).mono ?_);rintro e w1 ⟨rfl,rfl⟩))
           go_ret
           exact ⟨by rw [HE.out];rfl,HB.out⟩
      ·obtain ⟨qn,rn⟩:=lit_no hn
       have HE:=Lib.hid (show ce=140 by rw [←HCE.out];exact cE_no fun hc=>by have:=hchk.1 hc;simp_all <;> omega)
       clear hchk HCE hgz
       try clear hn
       try clear hp
       go_enter Tryz.func77,Tryz.ntmps77
       go_wp2_with (first
        | (go_at_call 76;refine (HAK.out _).mono ?_;rintro e w1 ⟨rfl,rfl⟩)
        | (go_at_call 55;(with_reducible refine (HNN.out _).mono ?_);rintro e w1 ⟨rfl,rfl⟩)
        | (go_at_call 55;(with_reducible refine (HNP.out _).mono ?_);rintro e w1 ⟨rfl,rfl⟩))
       go_ret
       exact ⟨by rw [HE.out];rfl,HB.out⟩
     ·have en:=True.intro
      have HE:=Lib.hid (show ce=140 by rw [←HCE.out];exact cE_no fun hc=>by have:=hchk.1 hc;simp_all <;> omega)
      clear hchk HCE hgz
      try clear hn
      try clear hp
      go_enter Tryz.func77,Tryz.ntmps77
      go_wp2_with (first
       | (go_at_call 76;refine (HAK.out _).mono ?_;rintro e w1 ⟨rfl,rfl⟩)
       | (go_at_call 55;(with_reducible refine (HNN.out _).mono ?_);rintro e w1 ⟨rfl,rfl⟩)
       | (go_at_call 55;(with_reducible refine (HNP.out _).mono ?_);rintro e w1 ⟨rfl,rfl⟩))
      go_ret
      exact ⟨by rw [HE.out];rfl,HB.out⟩
    ·cases iN
     ·have en:=True.intro
      have HE:=Lib.hid (show ce=140 by rw [←HCE.out];exact cE_no fun hc=>by have:=hchk.1 hc;simp_all <;> omega)
      clear hchk HCE hgz
      try clear hn
      try clear hp
      go_enter Tryz.func77,Tryz.ntmps77
      go_wp2_with (first
       | (go_at_call 76;refine (HAK.out _).mono ?_;rintro e w1 ⟨rfl,rfl⟩)
       | (go_at_call 55;(with_reducible refine (HNN.out _).mono ?_);rintro e w1 ⟨rfl,rfl⟩)
       | (go_at_call 55;(with_reducible refine (HNP.out _).mono ?_);rintro e w1 ⟨rfl,rfl⟩))
      go_ret
      exact ⟨by rw [HE.out];rfl,HB.out⟩
     ·have en:=True.intro
      cases pB
      ·cases iP
       ·have ep:=True.intro
        by_cases hp:p=[]
        ·obtain ⟨qp,rp⟩:=lit_yes hp
         cases o
         ·have eo:=True.intro
          have HE:=Lib.hid (show ce=0 by rw [←HCE.out];exact cE_yes (hchk.2 (by simp_all <;> omega)))
          clear hchk HCE hgz
          try clear hn
          try clear hp
          go_enter Tryz.func77,Tryz.ntmps77
          go_wp2_with (first
           | (go_at_call 76;refine (HAK.out _).mono ?_;rintro e w1 ⟨rfl,rfl⟩)
           | (go_at_call 55;(with_reducible refine (HNN.out _).mono ?_);rintro e w1 ⟨rfl,rfl⟩)
           | (go_at_call 55;(with_reducible refine (HNP.out _).mono ?_);rintro e w1 ⟨rfl,rfl⟩))
          go_ret
          exact ⟨by rw [HE.out];rfl,HB.out⟩
         ·by_cases k4:k=4
          ·subst k4
           clear k1 k2
           have HE:=Lib.hid (show ce=0 by rw [←HCE.out];exact cE_yes (hchk.2 (by simp_all <;> omega)))
           clear hchk HCE hgz
           try clear hn
           try clear hp
           go_enter Tryz.func77,Tryz.ntmps77
           go_wp2_with (first
            | (go_at_call 76;refine (HAK.out _).mono ?_;rintro e w1 ⟨rfl,rfl⟩)
            | (go_at_call 55;(with_reducible refine (HNN.out _).mono ?_);rintro e w1 ⟨rfl,rfl⟩)
            | (go_at_call 55;(with_reducible refine (HNP.out _).mono ?_);rintro e w1 ⟨rfl,rfl⟩))
           go_ret
           exact ⟨by rw [HE.out];rfl,HB.out⟩
          ·have k5:((k:Int) == 4)=false:=by rw [beq_eq_false_iff_ne];omega
           have HE:=Lib.hid (show ce=140 by rw [←HCE.out];exact cE_no fun hc=>by have:=hchk.1 hc;simp_all <;> omega)
           clear hchk HCE hgz
           try clear hn
           try clear hp
           go_enter Tryz.func77,Tryz.ntmps77
           go_wp2_with (first
            | (go_at_call 76;refine (HAK.out _).mono ?_;rintro e w1 ⟨rfl,rfl⟩)
            | (go_at_call 55;(with_reducible refine (HNN.out _).mono ?_);rintro e w1 ⟨rfl,rfl⟩)
            | (go_at_call 55;(with_reducible refine (HNP.out _).mono ?_);rintro e w1 ⟨rfl,rfl⟩))
           go_ret
           exact ⟨by rw [HE.out];rfl,HB.out⟩
        ·obtain ⟨qp,rp⟩:=lit_no hp
         have HE:=Lib.hid (show ce=140 by rw [←HCE.out];exact cE_no fun hc=>by have:=hchk.1 hc;simp_all <;> omega)
         clear hchk HCE hgz
         try clear hn
         try clear hp
         go_enter Tryz.func77,Tryz.ntmps77
         go_wp2_with (first
          | (go_at_call 76;refine (HAK.out _).mono ?_;rintro e w1 ⟨rfl,rfl⟩)
          | (go_at_call 55;(with_reducible refine (HNN.out _).mono ?_);rintro e w1 ⟨rfl,rfl⟩)
          | (go_at_call 55;(with_reducible refine (HNP.out _).mono ?_);rintro e w1 ⟨rfl,rfl⟩))
         go_ret
         exact ⟨by rw [HE.out];rfl,HB.out⟩
       ·have ep:=True.intro
        have HE:=Lib.hid (show ce=140 by rw [←HCE.out];exact cE_no fun hc=>by have:=hchk.1 hc;simp_all <;> omega)
        clear hchk HCE hgz
        try clear hn
        try clear hp
        go_enter Tryz.func77,Tryz.ntmps77
        go_wp2_with (first
         | (go_at_call 76;refine (HAK.out _).mono ?_;rintro e w1 ⟨rfl,rfl⟩)
         | (go_at_call 55;(with_reducible refine (HNN.out _).mono ?_);rintro e w1 ⟨rfl,rfl⟩)
         | (go_at_call 55;(with_reducible refine (HNP.out _).mono ?_);rintro e w1 ⟨rfl,rfl⟩))
        go_ret
        exact ⟨by rw [HE.out];rfl,HB.out⟩
      ·cases iP
       ·have ep:=True.intro
        have HE:=Lib.hid (show ce=140 by rw [←HCE.out];exact cE_no fun hc=>by have:=hchk.1 hc;simp_all <;> omega)
        clear hchk HCE hgz
        try clear hn
        try clear hp
        go_enter Tryz.func77,Tryz.ntmps77
        go_wp2_with (first
         | (go_at_call 76;refine (HAK.out _).mono ?_;rintro e w1 ⟨rfl,rfl⟩)
         | (go_at_call 55;(with_reducible refine (HNN.out _).mono ?_);rintro e w1 ⟨rfl,rfl⟩)
         | (go_at_call 55;(with_reducible refine (HNP.out _).mono ?_);rintro e w1 ⟨rfl,rfl⟩))
        go_ret
        exact ⟨by rw [HE.out];rfl,HB.out⟩
       ·have ep:=True.intro
        cases o
        ·have eo:=True.intro
         have HE:=Lib.hid (show ce=0 by rw [←HCE.out];exact cE_yes (hchk.2 (by simp_all <;> omega)))
         clear hchk HCE hgz
         try clear hn
         try clear hp
         go_enter Tryz.func77,Tryz.ntmps77
         go_wp2_with (first
          | (go_at_call 76;refine (HAK.out _).mono ?_;rintro e w1 ⟨rfl,rfl⟩)
          | (go_at_call 55;(with_reducible refine (HNN.out _).mono ?_);rintro e w1 ⟨rfl,rfl⟩)
          | (go_at_call 55;(with_reducible refine (HNP.out _).mono ?_);rintro e w1 ⟨rfl,rfl⟩))
         go_ret
         exact ⟨by rw [HE.out];rfl,HB.out⟩
        ·by_cases k4:k=4
         ·subst k4
          clear k1 k2
          have HE:=Lib.hid (show ce=0 by rw [←HCE.out];exact cE_yes (hchk.2 (by simp_all <;> omega)))
          clear hchk HCE hgz
          try clear hn
          try clear hp
          go_enter Tryz.func77,Tryz.ntmps77
          go_wp2_with (first
           | (go_at_call 76;refine (HAK.out _).mono ?_;rintro e w1 ⟨rfl,rfl⟩)
           | (go_at_call 55;(with_reducible refine (HNN.out _).mono ?_);rintro e w1 ⟨rfl,rfl⟩)
           | (go_at_call 55;(with_reducible refine (HNP.out _).mono ?_);rintro e w1 ⟨rfl,rfl⟩))
          go_ret
          exact ⟨by rw [HE.out];rfl,HB.out⟩
         ·have k5:((k:Int) == 4)=false:=by rw [beq_eq_false_iff_ne];omega
          have HE:=Lib.hid (show ce=140 by rw [←HCE.out];exact cE_no fun hc=>by have:=hchk.1 hc;simp_all <;> omega)
          clear hchk HCE hgz
          try clear hn
          try clear hp
          go_enter Tryz.func77,Tryz.ntmps77
          go_wp2_with (first
           | (go_at_call 76;refine (HAK.out _).mono ?_;rintro e w1 ⟨rfl,rfl⟩)
           | (go_at_call 55;(with_reducible refine (HNN.out _).mono ?_);rintro e w1 ⟨rfl,rfl⟩)
           | (go_at_call 55;(with_reducible refine (HNP.out _).mono ?_);rintro e w1 ⟨rfl,rfl⟩))
          go_ret
          exact ⟨by rw [HE.out];rfl,HB.out⟩
theorem dCheck_any (d:Dir) (h:DW d) (hn:d.name.length≤1000) (hp:d.pool.length≤1000) (w:World):Calls Tryz.prog 77 #[dV d] w (Told (.int .i64 (cE d)) w):=by
 by_cases hk:1≤d.kind∧d.kind≤6
 ·exact dcheck_yes d h hk hn hp w
 ·exact dcheck_no d h hk w
end Go.Proofs.YtekcjfdllclphaaGreatDoor.gn
end
