/- The document's long and Great. (Written by gen_slGr.py.) -/
import Derived.Test.YtekcjfdllclphaaGreatDoorMQaSlG
import Derived.Test.YtekcjfdllclphaaGreatDoorMQaSlCk
section
set_option linter.unusedVariables false
set_option linter.unusedSimpArgs false
namespace Go.Proofs.YtekcjfdllclphaaGreatDoor.gn
open Go.RowKit
open Go.Proofs.YtekcjfdllclphaaGreatDoor.un
open Go.Proofs.YtekcjfdllclphaaGreatDoor.di
open Go.Proofs.YtekcjfdllclphaaGreatDoor.sp (Slip)
def FewT (l:List Tx):Prop:=l.length≤9∧∀ s∈l,s.length≤100
structure Look (x:Slip):Prop where
 user:x.user.length≤100
 pool:x.pool.length≤100
 after:x.after.length≤20
 make:x.make.length≤9∧∀ d∈x.make,d.name.length≤100∧d.pool.length≤100
 drop:FewT x.drop
 use:FewT x.use
def LoT (l:List Tx) (w:World) (e:Ending) (w':World):Prop:=∃ b:Bool,e=.returned (.bool b)∧(b=false→FewT l)∧w=w'
set_option maxRecDepth 100000 in
set_option maxHeartbeats 4000000 in
theorem long_any (l:List Tx) (v:Value) (w:World) (h:RdC w v l.length (flS l)) (hm:l.length≤maxLen) (hs:∀ s∈l,s.length≤9223372036854775807):Calls Tryz.prog 48 #[v] w (LoT l w):=by
 obtain ⟨p,c,rfl⟩:=h.form
 have HC:=Lib.hid (fun hk:0 < l.length=>h.at_ (size:=1) rfl hk)
 obtain ⟨n,hn⟩:∃ n,l.length=n:=⟨_,rfl⟩
 rw [hn] at hm HC ⊢
 have HN:=Lib.hid hn
 have HSZ:=Lib.hid hs
 have hm2:n≤9223372036854775807:=by unfold maxLen at hm;omega
 clear h hn hm hs
 go_enter Tryz.func48,Tryz.ntmps48
 go_wp2
 go_loopw [3] (fun s3 wr=>∃ k:Nat,s3=.int .i64 k∧k≤n∧k≤10∧Aside (∀ s∈l.take k,s.length≤100)∧Aside (w=wr)) (fun s3 _=>n - (intOf s3).toNat)
 case atStart=>exact ⟨0,rfl,Nat.zero_le _,by omega,by show ∀ s∈l.take 0,_;simp,rfl⟩
 case round =>
  obtain ⟨k,rfl,hk,hk10,hnx,hw⟩:=hrel
  have HX:=Lib.hid (show ∀ s∈l.take k,s.length≤100 from hnx)
  have hw:w=wr:=hw
  subst hw
  clear hnx
  by_cases hkn:k < n
  ·by_cases hkt:k < 10
   ·obtain ⟨b,off,rfl,hb,hc⟩:=HC.out (by omega)
    obtain ⟨y,hy⟩:∃ y,l[k]?=some y:=⟨_,List.getElem?_eq_getElem (by rw [HN.out];exact hkn)⟩
    have c0:w.cell? ⟨b,off+k,none⟩=some (.string (str y)):=by
     have:=hc.elt (f:=cS) (k:=1) (fun _=>rfl) (j:=0) hy (by decide) rfl
     rwa [Nat.mul_one,Nat.add_zero] at this
    have HY:=Lib.hid hy
    have hz:=str_size y
    have hz2:(str y).size≤9223372036854775807:=by rw [hz];exact HSZ.out y (List.mem_of_getElem? hy)
    clear hc hy
    by_cases he:100 < y.length
    ·have hz3:100 < (str y).size:=by omega
     clear hz
     go_wp2
     go_ret
     exact ⟨true,rfl,(fun h=>by cases h),rfl⟩
    ·have hz3:¬ 100 < (str y).size:=by omega
     have HNX:=Lib.hid (show ∀ s∈l.take (k+1),s.length≤100 from fun s hs=>by
      rcases (mem_take_succ HY.out).1 hs with hs | hs
      ·exact HX.out s hs
      ·subst hs;omega)
     clear hz
     go_wp2
     go_roundw
     case rel=>exact ⟨k+1,by go_num,by omega,by omega,HNX.out,trivial⟩
     case measure=>simp [intOf];omega
   ·have h9:9 < n:=by omega
    go_wp2
    go_ret
    exact ⟨true,by rw [show decide (9 < (n:Int))=true from decide_eq_true (by omega)];rfl,(fun h=>by cases h),rfl⟩
  ·obtain rfl:k=n:=by omega
   have HF:Hid (k≤9→FewT l):=fun h9=>⟨by rw [HN.out];exact h9,fun s hs=>HX.out s (by rw [List.take_of_length_le (by rw [HN.out];exact Nat.le_refl _)];exact hs)⟩
   go_wp2
   go_ret
   exact ⟨decide (9 < (k:Int)),rfl,(fun h=>HF.out (by have:=of_decide_eq_false h;omega)),rfl⟩
def GrT (x:Slip) (w:World) (e:Ending) (w':World):Prop:=∃ b:Bool,e=.returned (.bool b)∧(b=false→Look x)∧Below w.heap.size w w'
set_option maxRecDepth 100000 in
set_option maxHeartbeats 8000000 in
theorem great_any (x:Slip) (g:Gh) (w:World) (h:SR w x g) (hW:SW x):Calls Tryz.prog 27 #[sV x g] w (GrT x w):=by
 obtain ⟨wb,hwb⟩:∃ wb,w.alloc (.cells (scs x g) 27)=wb:=⟨_,rfl⟩
 have hbx:BoxA wb w.heap.size 27 (scs x g):=by rw [←hwb];exact BoxA.new _ _ _
 have hB1:Below w.heap.size w wb:=by rw [←hwb];exact (Below.refl _ _).alloc (Nat.le_refl _) _
 have HB1:=Lib.hid hB1
 have HWB:=Lib.hid hwb
 have hsr:=h.next hB1
 obtain ⟨m1,m2,m3,m4⟩:x.after.length≤maxLen∧x.make.length≤maxLen∧x.drop.length≤maxLen∧x.use.length≤maxLen:=by
  obtain ⟨_,_,_,a,b⟩:=h.ca
  obtain ⟨_,_,_,c,d⟩:=h.cm
  obtain ⟨_,_,_,e,f⟩:=h.cd
  obtain ⟨_,_,_,i,j⟩:=h.cu
  exact ⟨by omega,by omega,by omega,by omega⟩
 have HLD:=Lib.hid (long_any x.drop g.d wb hsr.d m3 hW.drop)
 have HLU:=Lib.hid (long_any x.use g.u wb hsr.u m4 hW.use)
 have HCM:=Lib.hid (fun hk:0 < x.make.length=>RdC.at_ (size:=5) hsr.m h.cm.choose_spec.choose_spec.1 hk)
 obtain ⟨c0,c1,c2,c3,c4,c5,c6,c7,c8,c9,c10,c11,clt⟩:=cel_box hbx
 have z1:=str_size x.user
 have z2:=str_size x.pool
 have z3:(str x.user).size≤9223372036854775807:=by rw [z1];exact hW.user
 have z4:(str x.pool).size≤9223372036854775807:=by rw [z2];exact hW.pool
 have HMD:=Lib.hid hW.make
 obtain ⟨pa,ca,ea,hle1,hcm1⟩:=h.ca
 obtain ⟨pm,cm,em,hle2,hcm2⟩:=h.cm
 have HRM:=Lib.hid hsr.m
 clear h hW hB1 hwb hbx hsr hle1 hcm1 hle2 hcm2 HCM
 obtain ⟨va,vm,vd,vu⟩:=g
 dsimp only at ea em HRM
 subst ea em
 unfold sV scs at *
 dsimp only at *
 generalize hna:x.after.length=na at *
 generalize hnm:x.make.length=nm at *
 have HNA:=Lib.hid hna
 have HNM:=Lib.hid hnm
 unfold maxLen at m1 m2
 clear hna hnm m3 m4
 go_enter Tryz.func27,Tryz.ntmps27
 go_upto_region 1 with fail
 rw [HWB.out]
 by_cases g0:100 < x.user.length
 ·have y0:100 < (str x.user).size:=by omega
  clear HLD HLU HRM
  go_wp2
  go_ret
  exact ⟨true,rfl,(fun h=>by cases h),HB1.out⟩
 ·have y0:¬ 100 < (str x.user).size:=by omega
  by_cases g1:100 < x.pool.length
  ·have y1:100 < (str x.pool).size:=by omega
   clear HLD HLU HRM
   go_wp2
   go_ret
   exact ⟨true,rfl,(fun h=>by cases h),HB1.out⟩
  ·have y1:¬ 100 < (str x.pool).size:=by omega
   by_cases g2:20 < na
   ·clear HLD HLU HRM
    go_wp2
    go_ret
    exact ⟨true,rfl,(fun h=>by cases h),HB1.out⟩
   ·by_cases g3:9 < nm
    ·clear HLD HLU HRM
     go_wp2
     go_ret
     exact ⟨true,rfl,(fun h=>by cases h),HB1.out⟩
    ·have HL:=Lib.hid (show x.user.length≤100∧x.pool.length≤100 by omega)
     clear g0 g1 z1 z2 z3 z4
     go_upto_region 4 with (first
      | (go_at_call 48;((with_reducible refine HLD.out.mono ?_);rintro e w1 ⟨bd,rfl,hbd,rfl⟩);cases bd)
      | (go_at_call 48;((with_reducible refine HLU.out.mono ?_);rintro e w1 ⟨bu,rfl,hbu,rfl⟩);cases bu))
     rotate_left
     ·go_ret
      exact ⟨true,rfl,(fun h=>by cases h),HB1.out⟩
     ·go_ret
      exact ⟨true,rfl,(fun h=>by cases h),HB1.out⟩
     have HDU:=Lib.hid (And.intro (hbd (by trivial)) (hbu (by trivial)))
     have HN2:=Lib.hid (And.intro g2 g3)
     clear hbd hbu g2 g3 c0 c1 c2 c3 c4 c5 c6 c7 c8 c10 c11 HLD HLU
     go_loopw [3] (fun s3 wr=>∃ k:Nat,s3=.int .i64 k∧k≤nm∧Aside (∀ d∈x.make.take k,d.name.length≤100∧d.pool.length≤100)∧Aside (wb=wr)) (fun s3 _=>nm - (intOf s3).toNat)
     case atStart=>exact ⟨0,rfl,Nat.zero_le _,by show ∀ d∈x.make.take 0,_;simp,rfl⟩
     case round =>
      obtain ⟨k,rfl,hk,hnx,hw⟩:=hrel
      have HX:=Lib.hid (show ∀ d∈x.make.take k,d.name.length≤100∧d.pool.length≤100 from hnx)
      have hw:wb=wr:=hw
      subst hw
      clear hnx
      by_cases hkn:k < nm
      ·obtain ⟨b,off,rfl,hb,hc⟩:=RdC.at_ (size:=5) HRM.out rfl (by omega)
       obtain ⟨d,hd⟩:∃ d,x.make[k]?=some d:=⟨_,List.getElem?_eq_getElem (by rw [HNM.out];exact hkn)⟩
       obtain ⟨y0,y1,y2,y3,y4⟩:=cellM hc hd
       have HD:=Lib.hid hd
       have hdw:=HMD.out d (List.mem_of_getElem? hd)
       have u1:=str_size d.name
       have u2:=str_size d.pool
       have u3:(str d.name).size≤9223372036854775807:=by rw [u1];exact hdw.n
       have u4:(str d.pool).size≤9223372036854775807:=by rw [u2];exact hdw.p
       clear hc hd hdw y0 y3 y4
       by_cases h1:100 < d.name.length
       ·have v1:100 < (str d.name).size:=by omega
        clear u1 u2
        go_wp2
        go_ret
        exact ⟨true,rfl,(fun h=>by cases h),HB1.out⟩
       ·have v1:¬ 100 < (str d.name).size:=by omega
        by_cases h2:100 < d.pool.length
        ·have v2:100 < (str d.pool).size:=by omega
         clear u1 u2
         go_wp2
         go_ret
         exact ⟨true,rfl,(fun h=>by cases h),HB1.out⟩
        ·have v2:¬ 100 < (str d.pool).size:=by omega
         have HNX:=Lib.hid (show ∀ d∈x.make.take (k+1),d.name.length≤100∧d.pool.length≤100 from fun e he=>by
          rcases (mem_take_succ HD.out).1 he with he | he
          ·exact HX.out e he
          ·subst he;exact ⟨by omega,by omega⟩)
         clear u1 u2
         go_wp2
         go_roundw
         case rel=>exact ⟨k+1,by go_num,by omega,HNX.out,trivial⟩
         case measure=>simp [intOf];omega
      ·obtain rfl:k=nm:=by omega
       have HF:=Lib.hid (show Look x from ⟨HL.out.1,HL.out.2,by have:=HN2.out.1;have:=HNA.out;omega,⟨by have:=HN2.out.2;have:=HNM.out;omega,fun d hd=>HX.out d (by rw [List.take_of_length_le (by rw [HNM.out];exact Nat.le_refl _)];exact hd)⟩,HDU.out.1,HDU.out.2⟩)
       go_wp2
       go_ret
       exact ⟨false,rfl,fun _=>HF.out,HB1.out⟩
end Go.Proofs.YtekcjfdllclphaaGreatDoor.gn
end
