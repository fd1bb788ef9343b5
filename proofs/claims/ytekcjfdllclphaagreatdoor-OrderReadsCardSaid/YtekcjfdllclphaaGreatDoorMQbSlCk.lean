/- The contract of slip.Check. -/
import Derived.Test.YtekcjfdllclphaaGreatDoorMQbSlAp
set_option linter.unusedVariables false
set_option linter.unusedSimpArgs false
section
namespace Go.Proofs.YtekcjfdllclphaaGreatDoor.gn
open Go.RowKit
open Go.Proofs.YtekcjfdllclphaaGreatDoor.un
open Go.Proofs.YtekcjfdllclphaaGreatDoor.di
open Go.Proofs.YtekcjfdllclphaaGreatDoor.sp (Slip shortP soundP waitsP storedP apartP dirsP dropD useD capD innD outD chkS chkS_P)
def sE (x:Slip):Int:=if chkS x=true then 0 else 150
structure Cel (W:World) (B:Nat) (x:Slip) (g:Gh):Prop where
 c0:W.cell? ⟨B,0,none⟩=some (.string (str x.user))
 c1:W.cell? ⟨B,1,none⟩=some (.int .i64 x.nodes)
 c2:W.cell? ⟨B,2,none⟩=some (.int .i64 x.wall)
 c3:W.cell? ⟨B,3,none⟩=some (.int .i64 x.qos)
 c4:W.cell? ⟨B,4,none⟩=some g.a
 c5:W.cell? ⟨B,5,none⟩=some (.int .i64 x.cap)
 c6:W.cell? ⟨B,6,none⟩=some (.int .i64 x.inn)
 c7:W.cell? ⟨B,7,none⟩=some (.int .i64 x.out)
 c8:W.cell? ⟨B,8,none⟩=some (.string (str x.pool))
 c9:W.cell? ⟨B,9,none⟩=some g.m
 c10:W.cell? ⟨B,10,none⟩=some g.d
 c11:W.cell? ⟨B,11,none⟩=some g.u
 lt:B < W.heap.size
theorem cel_box {W:World} {B:Nat} {x:Slip} {g:Gh} {t:TypeId} (h:BoxA W B t (scs x g)):Cel W B x g :=
 ⟨h.cell 0 _,h.cell 1 _,h.cell 2 _,h.cell 3 _,h.cell 4 _,h.cell 5 _,h.cell 6 _,h.cell 7 _,h.cell 8 _,h.cell 9 _,h.cell 10 _,h.cell 11 _,h.lt⟩
set_option maxRecDepth 100000 in
set_option maxHeartbeats 8000000 in
theorem Check_slip (x:Slip) (g:Gh) (w:World) (h:SR w x g) (hW:SW x) (hL:LaidD w):Calls Tryz.prog 35 #[sV x g] w (Told (.int .i64 (sE x)) w):=by
 have HP:=Lib.hid (chkS_P x)
 obtain ⟨wb,hwb⟩:∃ wb,w.alloc (.cells (scs x g) 27)=wb:=⟨_,rfl⟩
 have hbx:BoxA wb w.heap.size 27 (scs x g):=by rw [←hwb];exact BoxA.new _ _ _
 have hB1:Below w.heap.size w wb:=by rw [←hwb];exact (Below.refl _ _).alloc (Nat.le_refl _) _
 have HB1:=Lib.hid hB1
 have HWB:=Lib.hid hwb
 have HCE:=Lib.hid (fun (W:World) (hb:Below wb.heap.size wb W)=>cel_box (hbx.next hb))
 have hsr:=fun (W:World) (hb:Below wb.heap.size wb W)=>(h.next hB1).next hb
 have HF1:=Lib.hid (fun (W:World) (hb:Below wb.heap.size wb W)=>short_any x g W (hsr W hb))
 have HF2:=Lib.hid (fun (W:World) (hb:Below wb.heap.size wb W)=>sound_any x g W hW)
 have few:shortP x=true→x.after.length≤8∧x.make.length≤4∧x.drop.length≤4∧x.use.length≤4:=fun hs=>by unfold shortP at hs;exact of_decide_eq_true hs
 have HF3:=Lib.hid (fun (hs:shortP x=true) (W:World) (hb:Below wb.heap.size wb W)=>waits_any x.after g.a W (hsr W hb).a (by have:=few hs;omega))
 have HF4:=Lib.hid (fun (hs:shortP x=true) (W:World) (hb:Below wb.heap.size wb W)=>stored_any x g W (hsr W hb) hW (by have:=few hs;omega) (by have:=few hs;omega) (by have:=few hs;omega) (hL.next (hB1.trans (hb.mono hB1.size))))
 have HF5:=Lib.hid (fun (hs:shortP x=true) (W:World) (hb:Below wb.heap.size wb W)=>apart_any x g W (hsr W hb) (by have:=few hs;omega) (by have:=few hs;omega))
 have HE:=Lib.hid (show sE x=if chkS x=true then 0 else 150 from rfl)
 clear h hW hL hbx hB1 hwb hsr few
 obtain ⟨va,vm,vd,vu⟩:=g
 obtain ⟨us,nodes,wall,qos,after,cap,inn,out,pool,mk,dr,use⟩:=x
 unfold sV scs at *
 dsimp only at *
 generalize sE _=se at *
 generalize hs1:shortP _=b1 at *
 generalize soundP _=b2 at *
 generalize waitsP _=b3 at *
 generalize storedP _=b4 at *
 generalize apartP _=b5 at *
 clear hs1
 obtain ⟨c0,c1,c2,c3,c4,c5,c6,c7,c8,c9,c10,c11,hlt⟩:=HCE.out wb (Below.refl _ _)
 dsimp only at c0 c1 c2 c3 c4 c5 c6 c7 c8 c9 c10 c11
 go_enter Tryz.func35,Tryz.ntmps35
 go_upto_region 1 with fail
 rw [HWB.out]
 cases b1 with
 | false =>
  have HR:=Lib.hid (show se=150 by rw [HE.out,HP.out];rfl)
  go_wp2_with ((go_at_call 57;((with_reducible refine (HF1.out _ (Below.refl _ _)).mono ?_);rintro e w1 ⟨rfl,hb⟩);have A1:=Lib.hid (show Below wb.heap.size wb w1 from hb);obtain ⟨d0,d1,d2,d3,d4,d5,d6,d7,d8,d9,d10,d11,dlt⟩:=HCE.out _ A1.out;dsimp only at d0 d1 d2 d3 d4 d5 d6 d7 d8 d9 d10 d11;clear hb))
  go_ret
  exact ⟨by rw [HR.out];rfl,HB1.out.trans (A1.out.mono HB1.out.size)⟩
 | true =>
  cases b2 with
  | false =>
   have HR:=Lib.hid (show se=150 by rw [HE.out,HP.out];rfl)
   go_wp2_with (first
    | (go_at_call 57;((with_reducible refine (HF1.out _ (Below.refl _ _)).mono ?_);rintro e w1 ⟨rfl,hb⟩);have A1:=Lib.hid (show Below wb.heap.size wb w1 from hb);obtain ⟨d0,d1,d2,d3,d4,d5,d6,d7,d8,d9,d10,d11,dlt⟩:=HCE.out _ A1.out;dsimp only at d0 d1 d2 d3 d4 d5 d6 d7 d8 d9 d10 d11;clear hb)
    | (go_at_call 58;((with_reducible refine (HF2.out _ A1.out).mono ?_);rintro e w2 ⟨rfl,hb⟩);have A2:=Lib.hid (show Below wb.heap.size wb w2 from (A1.out.trans (hb.mono A1.out.size)));obtain ⟨d0,d1,d2,d3,d4,d5,d6,d7,d8,d9,d10,d11,dlt⟩:=HCE.out _ A2.out;dsimp only at d0 d1 d2 d3 d4 d5 d6 d7 d8 d9 d10 d11;clear hb))
   go_ret
   exact ⟨by rw [HR.out];rfl,HB1.out.trans (A2.out.mono HB1.out.size)⟩
  | true =>
   cases b3 with
   | false =>
    have HR:=Lib.hid (show se=150 by rw [HE.out,HP.out];rfl)
    go_wp2_with (first
     | (go_at_call 57;((with_reducible refine (HF1.out _ (Below.refl _ _)).mono ?_);rintro e w1 ⟨rfl,hb⟩);have A1:=Lib.hid (show Below wb.heap.size wb w1 from hb);obtain ⟨d0,d1,d2,d3,d4,d5,d6,d7,d8,d9,d10,d11,dlt⟩:=HCE.out _ A1.out;dsimp only at d0 d1 d2 d3 d4 d5 d6 d7 d8 d9 d10 d11;clear hb)
     | (go_at_call 58;((with_reducible refine (HF2.out _ A1.out).mono ?_);rintro e w2 ⟨rfl,hb⟩);have A2:=Lib.hid (show Below wb.heap.size wb w2 from (A1.out.trans (hb.mono A1.out.size)));obtain ⟨d0,d1,d2,d3,d4,d5,d6,d7,d8,d9,d10,d11,dlt⟩:=HCE.out _ A2.out;dsimp only at d0 d1 d2 d3 d4 d5 d6 d7 d8 d9 d10 d11;clear hb)
     | (go_at_call 59;((with_reducible refine (HF3.out (by trivial) _ A2.out).mono ?_);rintro e w3 ⟨rfl,hb⟩);have A3:=Lib.hid (show Below wb.heap.size wb w3 from (A2.out.trans (hb.mono A2.out.size)));obtain ⟨d0,d1,d2,d3,d4,d5,d6,d7,d8,d9,d10,d11,dlt⟩:=HCE.out _ A3.out;dsimp only at d0 d1 d2 d3 d4 d5 d6 d7 d8 d9 d10 d11;clear hb))
    go_ret
    exact ⟨by rw [HR.out];rfl,HB1.out.trans (A3.out.mono HB1.out.size)⟩
   | true =>
    cases b4 with
    | false =>
     have HR:=Lib.hid (show se=150 by rw [HE.out,HP.out];rfl)
     go_wp2_with (first
      | (go_at_call 57;((with_reducible refine (HF1.out _ (Below.refl _ _)).mono ?_);rintro e w1 ⟨rfl,hb⟩);have A1:=Lib.hid (show Below wb.heap.size wb w1 from hb);obtain ⟨d0,d1,d2,d3,d4,d5,d6,d7,d8,d9,d10,d11,dlt⟩:=HCE.out _ A1.out;dsimp only at d0 d1 d2 d3 d4 d5 d6 d7 d8 d9 d10 d11;clear hb)
      | (go_at_call 58;((with_reducible refine (HF2.out _ A1.out).mono ?_);rintro e w2 ⟨rfl,hb⟩);have A2:=Lib.hid (show Below wb.heap.size wb w2 from (A1.out.trans (hb.mono A1.out.size)));obtain ⟨d0,d1,d2,d3,d4,d5,d6,d7,d8,d9,d10,d11,dlt⟩:=HCE.out _ A2.out;dsimp only at d0 d1 d2 d3 d4 d5 d6 d7 d8 d9 d10 d11;clear hb)
      | (go_at_call 59;((with_reducible refine (HF3.out (by trivial) _ A2.out).mono ?_);rintro e w3 ⟨rfl,hb⟩);have A3:=Lib.hid (show Below wb.heap.size wb w3 from (A2.out.trans (hb.mono A2.out.size)));obtain ⟨d0,d1,d2,d3,d4,d5,d6,d7,d8,d9,d10,d11,dlt⟩:=HCE.out _ A3.out;dsimp only at d0 d1 d2 d3 d4 d5 d6 d7 d8 d9 d10 d11;clear hb)
      | (go_at_call 60;((with_reducible refine (HF4.out (by trivial) _ A3.out).mono ?_);rintro e w4 ⟨rfl,hb⟩);have A4:=Lib.hid (show Below wb.heap.size wb w4 from (A3.out.trans (hb.mono A3.out.size)));obtain ⟨d0,d1,d2,d3,d4,d5,d6,d7,d8,d9,d10,d11,dlt⟩:=HCE.out _ A4.out;dsimp only at d0 d1 d2 d3 d4 d5 d6 d7 d8 d9 d10 d11;clear hb))
     go_ret
     exact ⟨by rw [HR.out];rfl,HB1.out.trans (A4.out.mono HB1.out.size)⟩
    | true =>
     cases b5 with
     | false =>
      have HR:=Lib.hid (show se=150 by rw [HE.out,HP.out];rfl)
      go_wp2_with (first
       | (go_at_call 57;((with_reducible refine (HF1.out _ (Below.refl _ _)).mono ?_);rintro e w1 ⟨rfl,hb⟩);have A1:=Lib.hid (show Below wb.heap.size wb w1 from hb);obtain ⟨d0,d1,d2,d3,d4,d5,d6,d7,d8,d9,d10,d11,dlt⟩:=HCE.out _ A1.out;dsimp only at d0 d1 d2 d3 d4 d5 d6 d7 d8 d9 d10 d11;clear hb)
       | (go_at_call 58;((with_reducible refine (HF2.out _ A1.out).mono ?_);rintro e w2 ⟨rfl,hb⟩);have A2:=Lib.hid (show Below wb.heap.size wb w2 from (A1.out.trans (hb.mono A1.out.size)));obtain ⟨d0,d1,d2,d3,d4,d5,d6,d7,d8,d9,d10,d11,dlt⟩:=HCE.out _ A2.out;dsimp only at d0 d1 d2 d3 d4 d5 d6 d7 d8 d9 d10 d11;clear hb)
       | (go_at_call 59;((with_reducible refine (HF3.out (by trivial) _ A2.out).mono ?_);rintro e w3 ⟨rfl,hb⟩);have A3:=Lib.hid (show Below wb.heap.size wb w3 from (A2.out.trans (hb.mono A2.out.size)));obtain ⟨d0,d1,d2,d3,d4,d5,d6,d7,d8,d9,d10,d11,dlt⟩:=HCE.out _ A3.out;dsimp only at d0 d1 d2 d3 d4 d5 d6 d7 d8 d9 d10 d11;clear hb)
       | (go_at_call 60;((with_reducible refine (HF4.out (by trivial) _ A3.out).mono ?_);rintro e w4 ⟨rfl,hb⟩);have A4:=Lib.hid (show Below wb.heap.size wb w4 from (A3.out.trans (hb.mono A3.out.size)));obtain ⟨d0,d1,d2,d3,d4,d5,d6,d7,d8,d9,d10,d11,dlt⟩:=HCE.out _ A4.out;dsimp only at d0 d1 d2 d3 d4 d5 d6 d7 d8 d9 d10 d11;clear hb)
       | (go_at_call 61;((with_reducible refine (HF5.out (by trivial) _ A4.out).mono ?_);rintro e w5 ⟨rfl,hb⟩);have A5:=Lib.hid (show Below wb.heap.size wb w5 from (A4.out.trans (hb.mono A4.out.size)));obtain ⟨d0,d1,d2,d3,d4,d5,d6,d7,d8,d9,d10,d11,dlt⟩:=HCE.out _ A5.out;dsimp only at d0 d1 d2 d3 d4 d5 d6 d7 d8 d9 d10 d11;clear hb))
      go_ret
      exact ⟨by rw [HR.out];rfl,HB1.out.trans (A5.out.mono HB1.out.size)⟩
     | true =>
      have HR:=Lib.hid (show se=0 by rw [HE.out,HP.out];rfl)
      go_wp2_with (first
       | (go_at_call 57;((with_reducible refine (HF1.out _ (Below.refl _ _)).mono ?_);rintro e w1 ⟨rfl,hb⟩);have A1:=Lib.hid (show Below wb.heap.size wb w1 from hb);obtain ⟨d0,d1,d2,d3,d4,d5,d6,d7,d8,d9,d10,d11,dlt⟩:=HCE.out _ A1.out;dsimp only at d0 d1 d2 d3 d4 d5 d6 d7 d8 d9 d10 d11;clear hb)
       | (go_at_call 58;((with_reducible refine (HF2.out _ A1.out).mono ?_);rintro e w2 ⟨rfl,hb⟩);have A2:=Lib.hid (show Below wb.heap.size wb w2 from (A1.out.trans (hb.mono A1.out.size)));obtain ⟨d0,d1,d2,d3,d4,d5,d6,d7,d8,d9,d10,d11,dlt⟩:=HCE.out _ A2.out;dsimp only at d0 d1 d2 d3 d4 d5 d6 d7 d8 d9 d10 d11;clear hb)
       | (go_at_call 59;((with_reducible refine (HF3.out (by trivial) _ A2.out).mono ?_);rintro e w3 ⟨rfl,hb⟩);have A3:=Lib.hid (show Below wb.heap.size wb w3 from (A2.out.trans (hb.mono A2.out.size)));obtain ⟨d0,d1,d2,d3,d4,d5,d6,d7,d8,d9,d10,d11,dlt⟩:=HCE.out _ A3.out;dsimp only at d0 d1 d2 d3 d4 d5 d6 d7 d8 d9 d10 d11;clear hb)
       | (go_at_call 60;((with_reducible refine (HF4.out (by trivial) _ A3.out).mono ?_);rintro e w4 ⟨rfl,hb⟩);have A4:=Lib.hid (show Below wb.heap.size wb w4 from (A3.out.trans (hb.mono A3.out.size)));obtain ⟨d0,d1,d2,d3,d4,d5,d6,d7,d8,d9,d10,d11,dlt⟩:=HCE.out _ A4.out;dsimp only at d0 d1 d2 d3 d4 d5 d6 d7 d8 d9 d10 d11;clear hb)
       | (go_at_call 61;((with_reducible refine (HF5.out (by trivial) _ A4.out).mono ?_);rintro e w5 ⟨rfl,hb⟩);have A5:=Lib.hid (show Below wb.heap.size wb w5 from (A4.out.trans (hb.mono A4.out.size)));obtain ⟨d0,d1,d2,d3,d4,d5,d6,d7,d8,d9,d10,d11,dlt⟩:=HCE.out _ A5.out;dsimp only at d0 d1 d2 d3 d4 d5 d6 d7 d8 d9 d10 d11;clear hb))
      go_ret
      exact ⟨by rw [HR.out];rfl,HB1.out.trans (A5.out.mono HB1.out.size)⟩
end Go.Proofs.YtekcjfdllclphaaGreatDoor.gn
end
