
/- The place of a wave: the program's closures. -/
import Derived.Test.YtbblohjldkpcnabPlP
import Derived.Test.YtbblohjldkpcnabWai
import Derived.Test.YtbblohjldkpcnabStm
namespace Go.Proofs.Ytbblohjldkpcnab
set_option linter.all false
open Go Go.ChangeShapes Go.WideShapes Go.ChangeAt Go.RowKit

/-- The wave there, or 0, and whether there is one. -/
def wvA (X : Nat → Nat) (n p : Nat) : Nat := if okWav X n p = true then numQ (atW X n p n) else 0
def wvK (X : Nat → Nat) (n p : Nat) : Bool := okWav X n p && isFin .f32 (atW X n p n)
theorem implWav_all (xa : Option Addr) (n cap : Nat) (X : Nat → Nat) (p : Nat) (w : World) (hX : Rd w xa n X) (hn : n ≤ 1048576) : Calls Try.prog 87 #[.slice xa n cap, .float .f32 p] w (NRet (wvA X n p) (wvK X n p) w) := by
  cases hk : okWav X n p
  · have := implWav_no xa n cap X p w hX hn hk
    unfold wvA wvK
    rw [hk, if_neg (by simp)]
    exact this
  · have := implWav_yes xa n cap X p w hX hk _ (Lib.hid rfl)
    unfold wvA wvK
    rw [hk, if_pos rfl]
    exact this
/-- What the closures' variables hold: the curve, whether a place has failed, the wave. -/
structure PlV (W0 w : World) (xa : Option Addr) (n cx : Nat) (X : Nat → Nat) (wave bc bf bw : Nat) (f : Bool) : Prop where
  c0 : w.cell? ⟨bc, 0, none⟩ = some (.slice xa n cx)
  c1 : w.cell? ⟨bf, 0, none⟩ = some (.bool f)
  c2 : w.cell? ⟨bw, 0, none⟩ = some (.float .f32 wave)
  fz : w.frozen? ⟨bf, 0, none⟩ = false
  lo : W0.heap.size ≤ bf
  n1 : bf ≠ bc
  n2 : bf ≠ bw
  bl : Below W0.heap.size W0 w
theorem only_of_below {w w1 : World} {g : Nat} (h : Below w.heap.size w w1) (o : Nat) (v : Value) : Only g w (w1.setCell ⟨g, o, none⟩ v) :=
  Only.setCell (show Only g w w1 from ⟨h.os, h.tape, h.output, h.size, fun k hk _ => h.block k hk⟩) o v
theorem PlV.next {W0 w w' : World} {xa : Option Addr} {n cx : Nat} {X : Nat → Nat} {wave bc bf bw : Nat} {f f' : Bool} (h : PlV W0 w xa n cx X wave bc bf bw f) (o : Only bf w w') (hc : w'.cell? ⟨bf, 0, none⟩ = some (.bool f')) (hf : w'.frozen? ⟨bf, 0, none⟩ = false) : PlV W0 w' xa n cx X wave bc bf bw f' := by
  have l0 := World.block_lt_of_cell? w _ h.c0
  have l2 := World.block_lt_of_cell? w _ h.c2
  exact ⟨(cell_same (o.2.2.2.2 bc l0 (Ne.symm h.n1)) 0).trans h.c0, hc, (cell_same (o.2.2.2.2 bw l2 (Ne.symm h.n2)) 0).trans h.c2, hf, h.lo, h.n1, h.n2, h.bl.trans (only_below h.lo h.bl.size o)⟩
/-- What the first closure does. -/
def LessRet (X : Nat → Nat) (n wave p bf : Nat) (f : Bool) (w : World) (e : Ending) (w' : World) : Prop := e = .returned (.bool (lsF (wvA X n p) wave)) ∧ Only bf w w' ∧ w'.cell? ⟨bf, 0, none⟩ = some (.bool (f || !wvK X n p)) ∧ w'.frozen? ⟨bf, 0, none⟩ = false
set_option maxRecDepth 100000 in
set_option maxHeartbeats 3200000 in
theorem less_any (W0 : World) (xa : Option Addr) (n cx : Nat) (X : Nat → Nat) (wave bc bf bw : Nat) (f : Bool) (p : Nat) (w : World) (hX : Rd W0 xa n X) (hn : n ≤ 1048576) (h : PlV W0 w xa n cx X wave bc bf bw f) :
    Calls Try.prog 86 #[.float .f32 p, .pointer (some ⟨bc, 0, none⟩), .pointer (some ⟨bf, 0, none⟩), .pointer (some ⟨bw, 0, none⟩)] w (LessRet X n wave p bf f w) := by
  have HX := hX.below h.bl
  have hc0 := h.c0
  have ho1 := order_pick_l .f32
  have lf := World.block_lt_of_cell? w _ h.c1
  have l2 := World.block_lt_of_cell? w _ h.c2
  obtain ⟨R, hR⟩ : ∃ R, R = wvA X n p := ⟨_, rfl⟩
  obtain ⟨K, hK⟩ : ∃ K, K = wvK X n p := ⟨_, rfl⟩
  have HW := implWav_all xa n cx X p w HX hn
  rw [← hR, ← hK] at HW
  have HH := Lib.hid h
  have HR := Lib.hid (And.intro hR hK)
  clear h hX HX hR hK
  go_enter Try.func86, Try.ntmps86
  go_wp2_with fail
  refine HW.mono ?_
  rintro e w1 ⟨s, rfl, B1⟩
  have c1 : w1.cell? ⟨bf, 0, none⟩ = some (.bool f) := (B1.cell (p := ⟨bf, 0, none⟩) lf).trans HH.out.c1
  have c2 : w1.cell? ⟨bw, 0, none⟩ = some (.float .f32 wave) := (B1.cell (p := ⟨bw, 0, none⟩) l2).trans HH.out.c2
  have fz : w1.frozen? ⟨bf, 0, none⟩ = false := (B1.frozen (p := ⟨bf, 0, none⟩) lf).trans HH.out.fz
  have hne : ¬ bf = bw := HH.out.n2
  have hne' : ¬ bw = bf := fun h => hne h.symm
  obtain ⟨Z, hZ⟩ : ∃ Z, Z = (FloatKind.f32.format.order R wave == some .lt) := ⟨_, rfl⟩
  have hZ' := hZ.symm
  have HZ := Lib.hid hZ
  have HO := Lib.hid (fun v => only_of_below (g := bf) B1 0 v)
  have hs1 : bf < w1.heap.size := Nat.lt_of_lt_of_le lf B1.size
  clear hZ B1 hc0 lf l2
  cases f
  · go_wp2
    all_goals go_ret
    obtain ⟨hr, hk⟩ := HR.out
    exact ⟨by rw [← hr]; exact congrArg (fun b => Ending.returned (.bool b)) HZ.out, HO.out _, by rw [← hk]; simp [go_sem, c1], by simp [go_sem, fz]⟩
  · go_wp2
    all_goals go_ret
    obtain ⟨hr, hk⟩ := HR.out
    exact ⟨by rw [← hr]; exact congrArg (fun b => Ending.returned (.bool b)) HZ.out, HO.out _, by rw [← hk]; simp [go_sem, c1], by simp [go_sem, fz]⟩
/-- .. and what the second one needs besides: the first one, and whether the upper end is less. -/
structure PlU (W0 w : World) (xa : Option Addr) (n cx : Nat) (X : Nat → Nat) (wave bc bf bw bi bh : Nat) (hl f : Bool) : Prop where
  v : PlV W0 w xa n cx X wave bc bf bw f
  c3 : w.cell? ⟨bi, 0, none⟩ = some (.func (.func 86) #[] #[.pointer (some ⟨bc, 0, none⟩), .pointer (some ⟨bf, 0, none⟩), .pointer (some ⟨bw, 0, none⟩)])
  c4 : w.cell? ⟨bh, 0, none⟩ = some (.bool hl)
  n3 : bf ≠ bi
  n4 : bf ≠ bh
theorem PlU.next {W0 w w' : World} {xa : Option Addr} {n cx : Nat} {X : Nat → Nat} {wave bc bf bw bi bh : Nat} {hl f f' : Bool} (h : PlU W0 w xa n cx X wave bc bf bw bi bh hl f) (o : Only bf w w') (hc : w'.cell? ⟨bf, 0, none⟩ = some (.bool f')) (hf : w'.frozen? ⟨bf, 0, none⟩ = false) : PlU W0 w' xa n cx X wave bc bf bw bi bh hl f' := by
  have l3 := World.block_lt_of_cell? w _ h.c3
  have l4 := World.block_lt_of_cell? w _ h.c4
  exact ⟨h.v.next o hc hf, (cell_same (o.2.2.2.2 bi l3 (Ne.symm h.n3)) 0).trans h.c3, (cell_same (o.2.2.2.2 bh l4 (Ne.symm h.n4)) 0).trans h.c4, h.n3, h.n4⟩
theorem PlV.drew {W0 w : World} {xa : Option Addr} {n cx : Nat} {X : Nat → Nat} {wave bc bf bw : Nat} {f : Bool} (h : PlV W0 w xa n cx X wave bc bf bw f) (q : Nat) : PlV W0 (w.drewN q) xa n cx X wave bc bf bw f :=
  ⟨h.c0, h.c1, h.c2, h.fz, h.lo, h.n1, h.n2, Below.drewN h.bl q⟩
theorem PlU.drew {W0 w : World} {xa : Option Addr} {n cx : Nat} {X : Nat → Nat} {wave bc bf bw bi bh : Nat} {hl f : Bool} (h : PlU W0 w xa n cx X wave bc bf bw bi bh hl f) (q : Nat) : PlU W0 (w.drewN q) xa n cx X wave bc bf bw bi bh hl f :=
  ⟨h.v.drew q, h.c3, h.c4, h.n3, h.n4⟩
/-- What the second closure does. -/
def UpperRet (W0 : World) (xa : Option Addr) (n cx : Nat) (X : Nat → Nat) (wave bc bf bw bi bh : Nat) (hl f : Bool) (p : Nat) (e : Ending) (w' : World) : Prop := e = .returned (.bool (lsF (wvA X n p) wave == hl)) ∧ PlU W0 w' xa n cx X wave bc bf bw bi bh hl (f || !wvK X n p)
set_option maxRecDepth 100000 in
set_option maxHeartbeats 3200000 in
theorem upper_any (W0 : World) (xa : Option Addr) (n cx : Nat) (X : Nat → Nat) (wave bc bf bw bi bh : Nat) (hl f : Bool) (p : Nat) (w : World) (hX : Rd W0 xa n X) (hn : n ≤ 1048576) (h : PlU W0 w xa n cx X wave bc bf bw bi bh hl f) :
    Calls Try.prog 89 #[.float .f32 p, .pointer (some ⟨bi, 0, none⟩), .pointer (some ⟨bh, 0, none⟩)] w (UpperRet W0 xa n cx X wave bc bf bw bi bh hl f p) := by
  have h3 := h.c3
  have h4 := h.c4
  have HL := Lib.hid (fun w h => less_any W0 xa n cx X wave bc bf bw f p w hX hn h)
  have HH := Lib.hid h
  obtain ⟨Z, hZ⟩ : ∃ Z, Z = lsF (wvA X n p) wave := ⟨_, rfl⟩
  obtain ⟨F, hF⟩ : ∃ F, F = (f || !wvK X n p) := ⟨_, rfl⟩
  have HF := Lib.hid (And.intro hZ hF)
  clear h hX hZ hF
  go_enter Try.func89, Try.ntmps89
  go_wp2_with fail
  go_region_with (go_at_call 86; refine (HL.out _ (by exact HH.out.v.drew 1)).mono ?_; rintro e w1 ⟨rfl, o, d1, d2⟩; have HN := HH.out.next (show Only bf w w1 from o) d1 d2; have h4' := HN.c4; rw [← HF.out.1])
  all_goals go_wp2
  all_goals go_ret
  all_goals exact ⟨by rw [← HF.out.1]; rfl, HN⟩
end Go.Proofs.Ytbblohjldkpcnab
