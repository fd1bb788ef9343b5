/- The contract of order.Same. (Written by gen_orI.py.) -/
import Derived.Test.YtekcjfdllclphaaGreatDoorMQbOrB
import Derived.Test.YtekcjfdllclphaaGreatDoorMQbSlSa
import Derived.Great.Ranges
import Derived.Test.YtekcjfdllclphaaGreatDoorMQbGenTail
set_option linter.unusedVariables false
set_option linter.unusedSimpArgs false
section
namespace Go.Proofs.YtekcjfdllclphaaGreatDoor.gn
open Go.RowKit
open Go.Proofs.YtekcjfdllclphaaGreatDoor.un
open Go.Proofs.YtekcjfdllclphaaGreatDoor.di
open Go.Proofs.YtekcjfdllclphaaGreatDoor.sp (Slip)
open Go.Proofs.YtekcjfdllclphaaGreatDoor.od (Ord)
theorem ocel {w:World} {b:Nat} {o:Ord} {g:Gh} (h:OrdB w b o g):w.cell? ⟨b,0,none⟩=some (.int .u8 (o.kind:Nat))∧w.cell? ⟨b,1,none⟩=some (.int .i64 o.job)∧w.cell? ⟨b,2,none⟩=some (.int .i64 o.n)∧w.cell? ⟨b,3,none⟩=some (.string (str o.name))∧w.cell? ⟨b,4,none⟩=some (.string (str o.pool))∧w.cell? ⟨b,5,none⟩=some (.string (str o.user))∧w.cell? ⟨b,6,none⟩=some (.int .i64 o.size)∧w.cell? ⟨b,7,none⟩=some (.bool o.yes)∧w.cell? ⟨b,8,none⟩=some (.string (str o.slip.user))∧w.cell? ⟨b,9,none⟩=some (.int .i64 o.slip.nodes)∧w.cell? ⟨b,10,none⟩=some (.int .i64 o.slip.wall)∧w.cell? ⟨b,11,none⟩=some (.int .i64 o.slip.qos)∧w.cell? ⟨b,12,none⟩=some (g.a)∧w.cell? ⟨b,13,none⟩=some (.int .i64 o.slip.cap)∧w.cell? ⟨b,14,none⟩=some (.int .i64 o.slip.inn)∧w.cell? ⟨b,15,none⟩=some (.int .i64 o.slip.out)∧w.cell? ⟨b,16,none⟩=some (.string (str o.slip.pool))∧w.cell? ⟨b,17,none⟩=some (g.m)∧w.cell? ⟨b,18,none⟩=some (g.d)∧w.cell? ⟨b,19,none⟩=some (g.u)∧b < w.heap.size :=
 ⟨BoxA.cell h 0 _,BoxA.cell h 1 _,BoxA.cell h 2 _,BoxA.cell h 3 _,BoxA.cell h 4 _,BoxA.cell h 5 _,BoxA.cell h 6 _,BoxA.cell h 7 _,BoxA.cell h 8 _,BoxA.cell h 9 _,BoxA.cell h 10 _,BoxA.cell h 11 _,BoxA.cell h 12 _,BoxA.cell h 13 _,BoxA.cell h 14 _,BoxA.cell h 15 _,BoxA.cell h 16 _,BoxA.cell h 17 _,BoxA.cell h 18 _,BoxA.cell h 19 _,BoxA.lt h⟩
theorem dec_ord (x y:Ord):decide (x=y)=(decide (x.kind=y.kind) && decide (x.job=y.job) && decide (x.n=y.n) && decide (x.name=y.name) && decide (x.pool=y.pool) && decide (x.user=y.user) && decide (x.size=y.size) && decide (x.yes=y.yes) && decide (x.slip=y.slip)):=by
 obtain ⟨a,b,c,d,e,f,g,h,i⟩:=x
 obtain ⟨a',b',c',d',e',f',g',h',i'⟩:=y
 rw [Bool.eq_iff_iff]
 simp only [decide_eq_true_eq,Bool.and_eq_true,Ord.mk.injEq]
 simp only [and_assoc]
theorem osame_end {tmps:Array Value} {b D:Bool} {w W:World} (h:tmps.getD 4 undef=.bool b) (hD:D=b) (hb:Below w.heap.size w W):bodyPost Tryz.prog Tryz.f15 (Told (.bool D) w) Exit.ret ⟨tmps,[]⟩ W:=by
 refine bodyPost_ret (v:=.bool b) ?_ rfl ⟨by rw [hD],hb⟩
 rw [results_tmp rfl,h]
set_option maxRecDepth 100000 in
set_option maxHeartbeats 16000000 in
theorem Same_ord (x y:Ord) (g g':Gh) (w:World) (h:SR w x.slip g) (h':SR w y.slip g'):Calls Tryz.prog 15 #[oV x g,oV y g'] w (Told (.bool (decide (x=y))) w):=by
 obtain ⟨wb,hwb⟩:∃ wb,(w.alloc (.cells (ocs x g) 29)).alloc (.cells (ocs y g') 29)=wb:=⟨_,rfl⟩
 have hb0:Below w.heap.size w wb:=by rw [←hwb];exact ((Below.refl _ _).alloc (Nat.le_refl _) _).alloc (by simp) _
 have hx1:OrdB wb w.heap.size x g:=by rw [←hwb];exact BoxA.next (BoxA.new w _ _) ((Below.refl _ _).alloc (Nat.le_refl _) _)
 have hx2:OrdB wb (w.heap.size+1) y g':=by
  have:=BoxA.new (w.alloc (.cells (ocs x g) 29)) 29 (ocs y g')
  rw [World.size_alloc,hwb] at this
  exact this
 have HB0:=Lib.hid hb0
 have HWB:=Lib.hid hwb
 have HS:=Lib.hid (Same_slip x.slip y.slip g g' wb (h.next hb0) (h'.next hb0))
 have HCX:=ocel hx1
 have HCY:=ocel hx2
 have HDX:=Lib.hid (dec_ord x y)
 clear h h' hb0 hwb hx1 hx2
 obtain ⟨va,vm,vd,vu⟩:=g
 obtain ⟨va',vm',vd',vu'⟩:=g'
 obtain ⟨b8,hb8⟩:∃ b,decide (x.slip=y.slip)=b:=⟨_,rfl⟩
 rw [hb8] at HS HDX
 clear hb8
 obtain ⟨k,job,n,nm,pl,us,sz,yes,⟨su,sn,sw,sq,sa,sc,si,so,sp,sm,sd,sx⟩⟩:=x
 obtain ⟨k',job',n',nm',pl',us',sz',yes',⟨su',sn',sw',sq',sa',sc',si',so',sp',sm',sd',sx'⟩⟩:=y
 unfold oV ocs at *
 unfold sV scs at HS
 dsimp only at *
 generalize hD:decide ((⟨k,job,n,nm,pl,us,sz,yes,⟨su,sn,sw,sq,sa,sc,si,so,sp,sm,sd,sx⟩⟩:Ord)=⟨k',job',n',nm',pl',us',sz',yes',⟨su',sn',sw',sq',sa',sc',si',so',sp',sm',sd',sx'⟩⟩)=D at *
 obtain ⟨b0,hb0⟩:∃ b,decide (k=k')=b:=⟨_,rfl⟩
 have q0:((k:Int) == (k':Int))=b0:=by rw [←hb0,Bool.eq_iff_iff,beq_iff_eq,decide_eq_true_eq];omega
 obtain ⟨b1,hb1⟩:∃ b,decide (job=job')=b:=⟨_,rfl⟩
 have q1:(job == job')=b1:=by rw [←hb1,Bool.eq_iff_iff,beq_iff_eq,decide_eq_true_eq]
 obtain ⟨b2,hb2⟩:∃ b,decide (n=n')=b:=⟨_,rfl⟩
 have q2:(n == n')=b2:=by rw [←hb2,Bool.eq_iff_iff,beq_iff_eq,decide_eq_true_eq]
 obtain ⟨b3,hb3⟩:∃ b,decide (nm=nm')=b:=⟨_,rfl⟩
 have q3:((str nm).toList == (str nm').toList)=b3:=by rw [eq_str];exact hb3
 have r3:decide ((str nm).toList=(str nm').toList)=b3:=by rw [str_toList,str_toList];exact hb3
 obtain ⟨b4,hb4⟩:∃ b,decide (pl=pl')=b:=⟨_,rfl⟩
 have q4:((str pl).toList == (str pl').toList)=b4:=by rw [eq_str];exact hb4
 have r4:decide ((str pl).toList=(str pl').toList)=b4:=by rw [str_toList,str_toList];exact hb4
 obtain ⟨b5,hb5⟩:∃ b,decide (us=us')=b:=⟨_,rfl⟩
 have q5:((str us).toList == (str us').toList)=b5:=by rw [eq_str];exact hb5
 have r5:decide ((str us).toList=(str us').toList)=b5:=by rw [str_toList,str_toList];exact hb5
 obtain ⟨b6,hb6⟩:∃ b,decide (sz=sz')=b:=⟨_,rfl⟩
 have q6:(sz == sz')=b6:=by rw [←hb6,Bool.eq_iff_iff,beq_iff_eq,decide_eq_true_eq]
 obtain ⟨b7,hb7⟩:∃ b,decide (yes=yes')=b:=⟨_,rfl⟩
 have q7:(yes == yes')=b7:=by rw [←hb7,Bool.eq_iff_iff,beq_iff_eq,decide_eq_true_eq]
 have HF:=Lib.hid (show D=(b0 && b1 && b2 && b3 && b4 && b5 && b6 && b7 && b8) by rw [HDX.out,hb0,hb1,hb2,hb3,hb4,hb5,hb6,hb7])
 clear HDX hD hb0 hb1 hb2 hb3 hb4 hb5 hb6 hb7
 obtain ⟨c0,c1,c2,c3,c4,c5,c6,c7,c8,c9,c10,c11,c12,c13,c14,c15,c16,c17,c18,c19,clt⟩:=HCX
 obtain ⟨d0,d1,d2,d3,d4,d5,d6,d7,d8,d9,d10,d11,d12,d13,d14,d15,d16,d17,d18,d19,dlt⟩:=HCY
 go_enter Tryz.func15,Tryz.ntmps15
 apply wp_seq_k
 intro K hK
 apply wp_region_lit
 refine Great.wpList_boxTo rfl _ _ rfl _ rfl w.heap.size rfl #[.int .u8 (k:Nat),.int .i64 job,.int .i64 n,.string (str nm),.string (str pl),.string (str us),.int .i64 sz,.bool yes,.string (str su),.int .i64 sn,.int .i64 sw,.int .i64 sq,va,.int .i64 sc,.int .i64 si,.int .i64 so,.string (str sp),vm,vd,vu] rfl ?_
 simp only [Act.put,List.setIfInBounds_toArray,List.set_cons_zero,List.set_cons_succ]
 refine Great.wpList_boxTo rfl _ _ rfl _ rfl (w.heap.size+1) (World.size_alloc _ _) #[.int .u8 (k':Nat),.int .i64 job',.int .i64 n',.string (str nm'),.string (str pl'),.string (str us'),.int .i64 sz',.bool yes',.string (str su'),.int .i64 sn',.int .i64 sw',.int .i64 sq',va',.int .i64 sc',.int .i64 si',.int .i64 so',.string (str sp'),vm',vd',vu'] rfl ?_
 rw [HWB.out]
 simp only [Act.put,List.setIfInBounds_toArray,List.set_cons_zero,List.set_cons_succ]
 go_upto_region 1 with fail
 apply wp_region_lit
 repeat ((fail_if_success (refine guard_split (g:=5) (pol:=true) (b:=b0) rfl ?_ ?_ ?_));first | go_values | go_skip | go_guarded | go_step | go_upon)
 refine guard_split (g:=5) (pol:=true) (b:=b0) rfl (by kernel_rfl) (fun hbb=>?_) (fun hbb=>?_)
 rotate_left
 ·subst hbb
  refine tail_at 4 (.bool false) (by kernel_rfl) (fun tmps ht=>?_)
  go_wp2
  exact osame_end ht (show D=false by rw [HF.out];rfl) (HB0.out)
 subst hbb
 repeat ((fail_if_success (refine guard_split (g:=12) (pol:=true) (b:=b1) rfl ?_ ?_ ?_));first | go_values | go_skip | go_guarded | go_step | go_upon)
 refine guard_split (g:=12) (pol:=true) (b:=b1) rfl (by kernel_rfl) (fun hbb=>?_) (fun hbb=>?_)
 rotate_left
 ·subst hbb
  refine tail_at 4 (.bool false) (by kernel_rfl) (fun tmps ht=>?_)
  go_wp2
  exact osame_end ht (show D=false by rw [HF.out];rfl) (HB0.out)
 subst hbb
 repeat ((fail_if_success (refine guard_split (g:=19) (pol:=true) (b:=b2) rfl ?_ ?_ ?_));first | go_values | go_skip | go_guarded | go_step | go_upon)
 refine guard_split (g:=19) (pol:=true) (b:=b2) rfl (by kernel_rfl) (fun hbb=>?_) (fun hbb=>?_)
 rotate_left
 ·subst hbb
  refine tail_at 4 (.bool false) (by kernel_rfl) (fun tmps ht=>?_)
  go_wp2
  exact osame_end ht (show D=false by rw [HF.out];rfl) (HB0.out)
 subst hbb
 repeat ((fail_if_success (refine guard_split (g:=26) (pol:=true) (b:=b3) rfl ?_ ?_ ?_));first | go_values | go_skip | go_guarded | go_step | go_upon)
 refine guard_split (g:=26) (pol:=true) (b:=b3) rfl (by kernel_rfl) (fun hbb=>?_) (fun hbb=>?_)
 rotate_left
 ·subst hbb
  refine tail_at 4 (.bool false) (by kernel_rfl) (fun tmps ht=>?_)
  go_wp2
  exact osame_end ht (show D=false by rw [HF.out];rfl) (HB0.out)
 subst hbb
 repeat ((fail_if_success (refine guard_split (g:=33) (pol:=true) (b:=b4) rfl ?_ ?_ ?_));first | go_values | go_skip | go_guarded | go_step | go_upon)
 refine guard_split (g:=33) (pol:=true) (b:=b4) rfl (by kernel_rfl) (fun hbb=>?_) (fun hbb=>?_)
 rotate_left
 ·subst hbb
  refine tail_at 4 (.bool false) (by kernel_rfl) (fun tmps ht=>?_)
  go_wp2
  exact osame_end ht (show D=false by rw [HF.out];rfl) (HB0.out)
 subst hbb
 repeat ((fail_if_success (refine guard_split (g:=40) (pol:=true) (b:=b5) rfl ?_ ?_ ?_));first | go_values | go_skip | go_guarded | go_step | go_upon)
 refine guard_split (g:=40) (pol:=true) (b:=b5) rfl (by kernel_rfl) (fun hbb=>?_) (fun hbb=>?_)
 rotate_left
 ·subst hbb
  refine tail_at 4 (.bool false) (by kernel_rfl) (fun tmps ht=>?_)
  go_wp2
  exact osame_end ht (show D=false by rw [HF.out];rfl) (HB0.out)
 subst hbb
 repeat ((fail_if_success (refine guard_split (g:=47) (pol:=true) (b:=b6) rfl ?_ ?_ ?_));first | go_values | go_skip | go_guarded | go_step | go_upon)
 refine guard_split (g:=47) (pol:=true) (b:=b6) rfl (by kernel_rfl) (fun hbb=>?_) (fun hbb=>?_)
 rotate_left
 ·subst hbb
  refine tail_at 4 (.bool false) (by kernel_rfl) (fun tmps ht=>?_)
  go_wp2
  exact osame_end ht (show D=false by rw [HF.out];rfl) (HB0.out)
 subst hbb
 repeat ((fail_if_success (refine guard_split (g:=54) (pol:=true) (b:=b7) rfl ?_ ?_ ?_));first | go_values | go_skip | go_guarded | go_step | go_upon)
 refine guard_split (g:=54) (pol:=true) (b:=b7) rfl (by kernel_rfl) (fun hbb=>?_) (fun hbb=>?_)
 rotate_left
 ·subst hbb
  refine tail_at 4 (.bool false) (by kernel_rfl) (fun tmps ht=>?_)
  go_wp2
  exact osame_end ht (show D=false by rw [HF.out];rfl) (HB0.out)
 subst hbb
 go_wp2_with ((go_at_call 36;((with_reducible refine HS.out.mono ?_);rintro e w4 ⟨rfl,hb⟩);have A4:=Lib.hid hb;clear hb))
 exact osame_end rfl (show D=b8 by rw [HF.out];rfl) (HB0.out.trans (A4.out.mono HB0.out.size))
end Go.Proofs.YtekcjfdllclphaaGreatDoor.gn
end
