/- The contract of the closure that cuts a file; of the call that finds a file for a closure; of the operations' closures. -/
import Derived.Test.YtpbgckpjgfjmgaaFiF
set_option linter.unusedVariables false
namespace Go.Proofs.Ytpbgckpjgfjmgaa.gn
open Go.RowKit
open Go.Proofs.Ytpbgckpjgfjmgaa.fi

theorem At.clipped {w w2 : World} {X : Nat → Prop} {G : Lay} {TT : Nat → Option Tb} {b : Nat} {T : Tb} {k : Nm} {f : Fl} {p : Nat} {A : Option Addr} {n c : Nat} (h : At w X G TT b T k f p A n c)
    {m : Nat} (hm : m ≤ n) {d' : Bool} (hb : BlkF w2 p A m m d') (ho : Only (fun i => i = p) w w2) :
    SysT w2 (ext X w w2) (upd TT b (fi.mod k (fun _ => (f.1.take m, d')) T)) ∧ OnlyT X w w2 := by
  have hy : Byt w2 A m m (f.1.take m) := (h.byt.clip hm).kept fun g hg hlt => ho.block g hlt fun e => by
    subst e
    obtain ⟨cur, hc, _⟩ := h.byt.lt hg
    exact absurd rfl (bytes_ne hc h.blk)
  refine ⟨h.sys.write_same h.tab h.at_ h.blk h.row (f' := (f.1.take m, d')) hb hy (fun i hi hp _ => ho.block i hi hp) (fun g cur hg hcur => ⟨cur, (ho.block g (lt_of_block hcur) fun e => ?_).trans hcur, rfl, fun _ _ => rfl⟩) (.inl ⟨rfl, hm⟩), h.only (ho.mono fun i _ hi => .inl hi)⟩
  subst e
  exact absurd rfl (bytes_ne hcur h.blk)

set_option maxHeartbeats 4000000 in
theorem change1_any (fid : FuncId) (v1 : Value) (hgo : ∀ (x : Value) (w : World), (callFunc fid #[x, v1]).run Try.prog w = .ok (.enter fid #[x, v1]) w)
    (w : World) (X : Nat → Prop) (TT : Nat → Option Tb) (b : Nat) (T : Tb) (k : Nm) (hS : SysT w X TT) (hT : TT b = some T) (hk : k.length ≤ maxLen) (g : Fl → Fl) (hg : ∀ f : Fl, f.2 = true → g f = f)
    (hdo : ∀ G f p A n c, At w X G TT b T k f p A n c → f.2 = false → Calls Try.prog fid #[.pointer (some ⟨p, 0, none⟩), v1] w (Goes X TT b (fi.mod k (fun _ => g f) T) w)) :
    Calls Try.prog 34 #[.map (some b), .string (str k), .func (.func fid) #[] #[v1]] w (Goes X TT b (fi.mod k g T) w) := by
  have hr := (hS.rising hT).keyed
  cases hgt : fi.get k T with
  | none =>
    have hlook := hS.look_none hT hk hgt
    have HE : Hid (SysT w (ext X w w) (upd TT b (fi.mod k g T))) := by
      show SysT _ _ _
      rw [mod_none hgt, upd_self hT]
      exact hS.more fun i hi => ext_old hi
    clear hdo hS hT hgt hr hg
    go_enter Try.func34, Try.ntmps34
    go_wp2
    go_end0
    exact ⟨rfl, HE.out, Only.refl _ _⟩
  | some f =>
    obtain ⟨G, hG⟩ := hS
    obtain ⟨p, A, n, c, h⟩ := hG.at_ hT hgt
    have hlook := (hG.tab hT).look hk
    rw [h.at_] at hlook
    simp only [ptrOf] at hlook
    obtain ⟨c0, c1', f0, f1⟩ := h.blk.cells
    cases hd : f.2 with
    | true =>
      rw [hd] at c1'
      have HE : Hid (SysT w (ext X w w) (upd TT b (fi.mod k g T))) := by
        show SysT _ _ _
        have : fi.mod k g T = T := mod_id fun v hv => by
          have := get_of_mem hr hv
          rw [hgt] at this
          rw [← Option.some.inj this]
          exact hg f hd
        rw [this, upd_self hT]
        exact SysT.more ⟨G, hG⟩ fun i hi => ext_old hi
      clear hdo hG hT hgt hr hg h hd c0 f0 f1
      go_enter Try.func34, Try.ntmps34
      go_wp2
      go_end0
      exact ⟨rfl, HE.out, Only.refl _ _⟩
    | false =>
      rw [hd] at c1'
      have HD := Lib.hid (hdo G f p A n c h hd)
      have HE : Hid (fi.mod k g T = fi.mod k (fun _ => g f) T) := mod_one hr hgt
      clear hdo hG hT hgt hr hg h hd c0 f0 f1
      go_enter Try.func34, Try.ntmps34
      go_wp2_with ((with_reducible refine HD.out.mono ?_); rintro e w1 ⟨rfl, h1, h2⟩)
      go_end0
      exact ⟨rfl, by rw [HE.out]; exact h1, h2⟩

set_option maxHeartbeats 4000000 in
theorem change2_any (fid : FuncId) (v1 v2 : Value) (hgo : ∀ (x : Value) (w : World), (callFunc fid #[x, v1, v2]).run Try.prog w = .ok (.enter fid #[x, v1, v2]) w)
    (w : World) (X : Nat → Prop) (TT : Nat → Option Tb) (b : Nat) (T : Tb) (k : Nm) (hS : SysT w X TT) (hT : TT b = some T) (hk : k.length ≤ maxLen) (g : Fl → Fl) (hg : ∀ f : Fl, f.2 = true → g f = f)
    (hdo : ∀ G f p A n c, At w X G TT b T k f p A n c → f.2 = false → Calls Try.prog fid #[.pointer (some ⟨p, 0, none⟩), v1, v2] w (Goes X TT b (fi.mod k (fun _ => g f) T) w)) :
    Calls Try.prog 34 #[.map (some b), .string (str k), .func (.func fid) #[] #[v1, v2]] w (Goes X TT b (fi.mod k g T) w) := by
  have hr := (hS.rising hT).keyed
  cases hgt : fi.get k T with
  | none =>
    have hlook := hS.look_none hT hk hgt
    have HE : Hid (SysT w (ext X w w) (upd TT b (fi.mod k g T))) := by
      show SysT _ _ _
      rw [mod_none hgt, upd_self hT]
      exact hS.more fun i hi => ext_old hi
    clear hdo hS hT hgt hr hg
    go_enter Try.func34, Try.ntmps34
    go_wp2
    go_end0
    exact ⟨rfl, HE.out, Only.refl _ _⟩
  | some f =>
    obtain ⟨G, hG⟩ := hS
    obtain ⟨p, A, n, c, h⟩ := hG.at_ hT hgt
    have hlook := (hG.tab hT).look hk
    rw [h.at_] at hlook
    simp only [ptrOf] at hlook
    obtain ⟨c0, c1', f0, f1⟩ := h.blk.cells
    cases hd : f.2 with
    | true =>
      rw [hd] at c1'
      have HE : Hid (SysT w (ext X w w) (upd TT b (fi.mod k g T))) := by
        show SysT _ _ _
        have : fi.mod k g T = T := mod_id fun v hv => by
          have := get_of_mem hr hv
          rw [hgt] at this
          rw [← Option.some.inj this]
          exact hg f hd
        rw [this, upd_self hT]
        exact SysT.more ⟨G, hG⟩ fun i hi => ext_old hi
      clear hdo hG hT hgt hr hg h hd c0 f0 f1
      go_enter Try.func34, Try.ntmps34
      go_wp2
      go_end0
      exact ⟨rfl, HE.out, Only.refl _ _⟩
    | false =>
      rw [hd] at c1'
      have HD := Lib.hid (hdo G f p A n c h hd)
      have HE : Hid (fi.mod k g T = fi.mod k (fun _ => g f) T) := mod_one hr hgt
      clear hdo hG hT hgt hr hg h hd c0 f0 f1
      go_enter Try.func34, Try.ntmps34
      go_wp2_with ((with_reducible refine HD.out.mono ?_); rintro e w1 ⟨rfl, h1, h2⟩)
      go_end0
      exact ⟨rfl, by rw [HE.out]; exact h1, h2⟩
end Go.Proofs.Ytpbgckpjgfjmgaa.gn
