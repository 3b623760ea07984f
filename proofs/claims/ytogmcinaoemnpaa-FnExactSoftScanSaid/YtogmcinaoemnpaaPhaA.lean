
/- The phasor of any number of turns: the program tells what the model tells, to the last bit. -/
import Derived.Test.YtogmcinaoemnpaaPhaV
import Derived.Test.YtogmcinaoemnpaaRowKit
namespace Go.Proofs.Ytogmcinaoemnpaa
open Go Go.ChangeShapes Go.WideShapes Go.ChangeAt Go.RowKit

structure Ready (g D : Nat) : Prop where
  gi : floatToIntVal .f64 g .i64 = some (ipart g)
  gb : Bd .f64 (fr g) 1
  g0 : (FloatKind.f64.format.order (fbin .sub .f64 g g) 0 != some .eq) = false
  g1 : (FloatKind.f64.format.order g 4841369599423283200 == some .gt || FloatKind.f64.format.order g 4841369599423283200 == some .eq) = false
  g2 : (FloatKind.f64.format.order g 14064741636278059008 == some .lt || FloatKind.f64.format.order g 14064741636278059008 == some .eq) = false
  di : floatToIntVal .f64 D .i64 = some (ipart D)
  db : Bd .f64 (fr D) 1
  d0 : (FloatKind.f64.format.order (fbin .sub .f64 D D) 0 != some .eq) = false
  d1 : (FloatKind.f64.format.order D 4841369599423283200 == some .gt || FloatKind.f64.format.order D 4841369599423283200 == some .eq) = false
  d2 : (FloatKind.f64.format.order D 14064741636278059008 == some .lt || FloatKind.f64.format.order D 14064741636278059008 == some .eq) = false
  pg : ∀ s, pick .f64 g s = g
  pd : ∀ s, pick .f64 D s = D
  ps : ∀ s, pick .f64 (fbin .sub .f64 0 (sineF (fr g))) s = fbin .sub .f64 0 (sineF (fr g))
  pc : ∀ s, pick .f64 (fbin .sub .f64 0 (sineF (fr D))) s = fbin .sub .f64 0 (sineF (fr D))
  okS : convOk .f64 (sineF (fr g)) .f32
  okC : convOk .f64 (sineF (fr D)) .f32
  okNS : convOk .f64 (fbin .sub .f64 0 (sineF (fr g))) .f32
  okNC : convOk .f64 (fbin .sub .f64 0 (sineF (fr D))) .f32
theorem ready {g : Nat} {B : Int} (hg : Bd .f64 g B) (h0 : 0 ≤ B) (hB : B ≤ 40) : Ready g (fbin .sub .f64 quarW g) := by
  have hD : Bd .f64 (fbin .sub .f64 quarW g) (B + 1) := bd_sub (bd_quar'.mono h0) hg (by simp only [lowE]; omega) (by simp only [topE]; omega)
  obtain ⟨a1, a2, a3, a4, a5⟩ := sine_ready hg (by omega)
  obtain ⟨c1, c2, c3, c4, c5⟩ := sine_ready hD (by omega)
  have bz : Bd .f64 0 0 := ⟨false, 0, -1074, by decide +kernel, by decide +kernel⟩
  have bS := bd_sineF a2
  have bC := bd_sineF c2
  have bNS := bd_sub (bz.mono (by decide)) bS (by decide) (by decide)
  have bNC := bd_sub (bz.mono (by decide)) bC (by decide) (by decide)
  exact ⟨a1, a2, a3, a4, a5, c1, c2, c3, c4, c5, fun s => pick_num hg.num s, fun s => pick_num hD.num s, fun s => pick_num bNS.num s, fun s => pick_num bNC.num s,
    convOk_narrow bS (by decide), convOk_narrow bC (by decide), convOk_narrow bNS (by decide), convOk_narrow bNC (by decide)⟩
def cosW (g : Nat) : Nat := sineF (fr (fbin .sub .f64 quarW g))
def sinW (g : Nat) : Nat := sineF (fr g)
def neg0 (x : Nat) : Nat := fbin .sub .f64 0 x
/-- Both parts, in 64 bits, of what is left of f when quarters are taken away. -/
def phaQ (f : Nat) : Nat × Nat :=
  if ge64 (fq f 0) quarW = true then
    if ge64 (fq f 1) quarW = true then
      if ge64 (fq f 2) quarW = true then
        if ge64 (fq f 3) quarW = true then (cosW (fq f 4), sinW (fq f 4)) else (sinW (fq f 3), neg0 (cosW (fq f 3)))
      else (neg0 (cosW (fq f 2)), neg0 (sinW (fq f 2)))
    else (neg0 (sinW (fq f 1)), cosW (fq f 1))
  else (cosW (fq f 0), sinW (fq f 0))
def phaT (Y : Nat) : Nat × Nat :=
  if isFin .f64 Y = true then
    if ge64 (absw Y) 4841369599423283200 = true then (1065353216, 0) else (fconv .f64 (phaQ (fr Y)).1 .f32, fconv .f64 (phaQ (fr Y)).2 .f32)
  else (qnan .f32, qnan .f32)

theorem small_any {Y : Nat} {s : Bool} {m : Nat} {e : Int} (hd : FloatKind.decode .f64 Y = .number s m e) (hlt : (m : Rat) * two e < two 52) {Goal : Nat → Nat → Prop}
    (h0 : Ready (fq (fr Y) 0) (fbin .sub .f64 quarW (fq (fr Y) 0)) → ge64 (fq (fr Y) 0) quarW = false → Goal (cosW (fq (fr Y) 0)) (sinW (fq (fr Y) 0)))
    (h1 : Ready (fq (fr Y) 1) (fbin .sub .f64 quarW (fq (fr Y) 1)) → ge64 (fq (fr Y) 0) quarW = true → ge64 (fq (fr Y) 1) quarW = false → Goal (neg0 (sinW (fq (fr Y) 1))) (cosW (fq (fr Y) 1)))
    (h2 : Ready (fq (fr Y) 2) (fbin .sub .f64 quarW (fq (fr Y) 2)) → ge64 (fq (fr Y) 0) quarW = true → ge64 (fq (fr Y) 1) quarW = true → ge64 (fq (fr Y) 2) quarW = false → Goal (neg0 (cosW (fq (fr Y) 2))) (neg0 (sinW (fq (fr Y) 2))))
    (h3 : Ready (fq (fr Y) 3) (fbin .sub .f64 quarW (fq (fr Y) 3)) → ge64 (fq (fr Y) 0) quarW = true → ge64 (fq (fr Y) 1) quarW = true → ge64 (fq (fr Y) 2) quarW = true → ge64 (fq (fr Y) 3) quarW = false → Goal (sinW (fq (fr Y) 3)) (neg0 (cosW (fq (fr Y) 3))))
    (h4 : Ready (fq (fr Y) 4) (fbin .sub .f64 quarW (fq (fr Y) 4)) → ge64 (fq (fr Y) 0) quarW = true → ge64 (fq (fr Y) 1) quarW = true → ge64 (fq (fr Y) 2) quarW = true → ge64 (fq (fr Y) 3) quarW = true → ge64 (fq (fr Y) 4) quarW = false → Goal (cosW (fq (fr Y) 4)) (sinW (fq (fr Y) 4)))
    : Goal (phaQ (fr Y)).1 (phaQ (fr Y)).2 := by
  have hb := bd_fr hd hlt
  have hu := ub_fr hd hlt
  obtain ⟨b1, b2, b3, b4⟩ := bd_fq hb
  have t4 := fq_four hb hu
  unfold phaQ
  cases t0 : ge64 (fq (fr Y) 0) quarW
  · exact h0 (ready (B := 1) hb (by decide) (by decide)) t0
  · cases t1 : ge64 (fq (fr Y) 1) quarW
    · exact h1 (ready b1 (by decide) (by decide)) t0 t1
    · cases t2 : ge64 (fq (fr Y) 2) quarW
      · exact h2 (ready b2 (by decide) (by decide)) t0 t1 t2
      · cases t3 : ge64 (fq (fr Y) 3) quarW
        · exact h3 (ready b3 (by decide) (by decide)) t0 t1 t2 t3
        · exact h4 (ready b4 (by decide) (by decide)) t0 t1 t2 t3 t4
theorem implPha_small {Y : Nat} (hY : Y < 18446744073709551616) (hfin : isFin .f64 Y = true) {s : Bool} {m : Nat} {e : Int} (hd : FloatKind.decode .f64 Y = .number s m e) (hlt : (m : Rat) * two e < two 52)
    (g3 : ge64 (absw Y) 4841369599423283200 = false) (w : World) : Calls Try.prog 111 #[.float .f64 Y] w (RetC (fconv .f64 (phaQ (fr Y)).1 .f32) (fconv .f64 (phaQ (fr Y)).2 .f32) w) := by
  have hi := (ipart_val hd hlt).1
  have hP := fun w => partOfTurn_any Y hi w
  refine small_any (Goal := fun A B => Calls Try.prog 111 #[.float .f64 Y] w (RetC (fconv .f64 A .f32) (fconv .f64 B .f32) w)) hd hlt ?_ ?_ ?_ ?_ ?_
  · intro R t0
    exact implPha_0 Y (fr Y)  (fbin .sub .f64 quarW (fq (fr Y) 0)) (sineF (fr (fbin .sub .f64 quarW (fq (fr Y) 0)))) (sineF (fr (fq (fr Y) 0))) (fbin .sub .f64 0 (sineF (fr (fq (fr Y) 0)))) (fbin .sub .f64 0 (sineF (fr (fbin .sub .f64 quarW (fq (fr Y) 0)))))  t0 rfl R.pd R.pg (fun w => wideSine_any _ R.gi R.gb w) (fun w => wideSine_any _ R.di R.db w) rfl R.ps rfl R.pc R.okS R.okC R.okNS R.okNC hP hY hfin g3 w
  · intro R t0 t1
    exact implPha_1 Y (fr Y) (fq (fr Y) 1) (fbin .sub .f64 quarW (fq (fr Y) 1)) (sineF (fr (fbin .sub .f64 quarW (fq (fr Y) 1)))) (sineF (fr (fq (fr Y) 1))) (fbin .sub .f64 0 (sineF (fr (fq (fr Y) 1)))) (fbin .sub .f64 0 (sineF (fr (fbin .sub .f64 quarW (fq (fr Y) 1))))) rfl t0 t1 rfl R.pd R.pg (fun w => wideSine_any _ R.gi R.gb w) (fun w => wideSine_any _ R.di R.db w) rfl R.ps rfl R.pc R.okS R.okC R.okNS R.okNC hP hY hfin g3 w
  · intro R t0 t1 t2
    exact implPha_2 Y (fr Y) (fq (fr Y) 1) (fq (fr Y) 2) (fbin .sub .f64 quarW (fq (fr Y) 2)) (sineF (fr (fbin .sub .f64 quarW (fq (fr Y) 2)))) (sineF (fr (fq (fr Y) 2))) (fbin .sub .f64 0 (sineF (fr (fq (fr Y) 2)))) (fbin .sub .f64 0 (sineF (fr (fbin .sub .f64 quarW (fq (fr Y) 2))))) rfl rfl t0 t1 t2 rfl R.pd R.pg (fun w => wideSine_any _ R.gi R.gb w) (fun w => wideSine_any _ R.di R.db w) rfl R.ps rfl R.pc R.okS R.okC R.okNS R.okNC hP hY hfin g3 w
  · intro R t0 t1 t2 t3
    exact implPha_3 Y (fr Y) (fq (fr Y) 1) (fq (fr Y) 2) (fq (fr Y) 3) (fbin .sub .f64 quarW (fq (fr Y) 3)) (sineF (fr (fbin .sub .f64 quarW (fq (fr Y) 3)))) (sineF (fr (fq (fr Y) 3))) (fbin .sub .f64 0 (sineF (fr (fq (fr Y) 3)))) (fbin .sub .f64 0 (sineF (fr (fbin .sub .f64 quarW (fq (fr Y) 3))))) rfl rfl rfl t0 t1 t2 t3 rfl R.pd R.pg (fun w => wideSine_any _ R.gi R.gb w) (fun w => wideSine_any _ R.di R.db w) rfl R.ps rfl R.pc R.okS R.okC R.okNS R.okNC hP hY hfin g3 w
  · intro R t0 t1 t2 t3 t4
    exact implPha_4 Y (fr Y) (fq (fr Y) 1) (fq (fr Y) 2) (fq (fr Y) 3) (fq (fr Y) 4) (fbin .sub .f64 quarW (fq (fr Y) 4)) (sineF (fr (fbin .sub .f64 quarW (fq (fr Y) 4)))) (sineF (fr (fq (fr Y) 4))) (fbin .sub .f64 0 (sineF (fr (fq (fr Y) 4)))) (fbin .sub .f64 0 (sineF (fr (fbin .sub .f64 quarW (fq (fr Y) 4))))) rfl rfl rfl rfl t0 t1 t2 t3 t4 rfl R.pd R.pg (fun w => wideSine_any _ R.gi R.gb w) (fun w => wideSine_any _ R.di R.db w) rfl R.ps rfl R.pc R.okS R.okC R.okNS R.okNC hP hY hfin g3 w
theorem specPha_small {Y : Nat} (hfin : isFin .f64 Y = true) {s : Bool} {m : Nat} {e : Int} (hd : FloatKind.decode .f64 Y = .number s m e) (hlt : (m : Rat) * two e < two 52)
    (q1 : ge64 Y 4841369599423283200 = false) (q2 : (FloatKind.f64.format.order Y 14064741636278059008 == some .lt || FloatKind.f64.format.order Y 14064741636278059008 == some .eq) = false) (w : World) :
    Calls Try.prog 67 #[.float .f64 Y] w (RetC (fconv .f64 (phaQ (fr Y)).1 .f32) (fconv .f64 (phaQ (fr Y)).2 .f32) w) := by
  have hi := (ipart_val hd hlt).1
  have q0 : (FloatKind.f64.format.order (fbin .sub .f64 Y Y) 0 != some .eq) = false := by
    have := sub_self .f64 Y
    rw [hfin] at this
    simp only [beq_iff_eq] at this
    rw [this]; rfl
  cases tF : lt64 (fr0 Y) 0
  · have hF : fr0 Y = fr Y := by unfold fr; rw [tF]; rfl
    have tF' : lt64 (fr Y) 0 = false := by rw [← hF]; exact tF
    refine small_any (Goal := fun A B => Calls Try.prog 67 #[.float .f64 Y] w (RetC (fconv .f64 A .f32) (fconv .f64 B .f32) w)) hd hlt ?_ ?_ ?_ ?_ ?_
    · intro R t0
      exact specPha_00 Y (fr Y)  (fbin .sub .f64 quarW (fq (fr Y) 0)) (sineF (fr (fbin .sub .f64 quarW (fq (fr Y) 0)))) (sineF (fr (fq (fr Y) 0))) (fbin .sub .f64 0 (sineF (fr (fq (fr Y) 0)))) (fbin .sub .f64 0 (sineF (fr (fbin .sub .f64 quarW (fq (fr Y) 0)))))  t0 rfl R.pd R.pg (fun w => specSineWide_any _ R.gi R.gb R.g0 R.g1 R.g2 w) (fun w => specSineWide_any _ R.di R.db R.d0 R.d1 R.d2 w) rfl R.ps rfl R.pc R.okS R.okC R.okNS R.okNC hi hF tF' q0 q1 q2 w
    · intro R t0 t1
      exact specPha_01 Y (fr Y) (fq (fr Y) 1) (fbin .sub .f64 quarW (fq (fr Y) 1)) (sineF (fr (fbin .sub .f64 quarW (fq (fr Y) 1)))) (sineF (fr (fq (fr Y) 1))) (fbin .sub .f64 0 (sineF (fr (fq (fr Y) 1)))) (fbin .sub .f64 0 (sineF (fr (fbin .sub .f64 quarW (fq (fr Y) 1))))) rfl t0 t1 rfl R.pd R.pg (fun w => specSineWide_any _ R.gi R.gb R.g0 R.g1 R.g2 w) (fun w => specSineWide_any _ R.di R.db R.d0 R.d1 R.d2 w) rfl R.ps rfl R.pc R.okS R.okC R.okNS R.okNC hi hF tF' q0 q1 q2 w
    · intro R t0 t1 t2
      exact specPha_02 Y (fr Y) (fq (fr Y) 1) (fq (fr Y) 2) (fbin .sub .f64 quarW (fq (fr Y) 2)) (sineF (fr (fbin .sub .f64 quarW (fq (fr Y) 2)))) (sineF (fr (fq (fr Y) 2))) (fbin .sub .f64 0 (sineF (fr (fq (fr Y) 2)))) (fbin .sub .f64 0 (sineF (fr (fbin .sub .f64 quarW (fq (fr Y) 2))))) rfl rfl t0 t1 t2 rfl R.pd R.pg (fun w => specSineWide_any _ R.gi R.gb R.g0 R.g1 R.g2 w) (fun w => specSineWide_any _ R.di R.db R.d0 R.d1 R.d2 w) rfl R.ps rfl R.pc R.okS R.okC R.okNS R.okNC hi hF tF' q0 q1 q2 w
    · intro R t0 t1 t2 t3
      exact specPha_03 Y (fr Y) (fq (fr Y) 1) (fq (fr Y) 2) (fq (fr Y) 3) (fbin .sub .f64 quarW (fq (fr Y) 3)) (sineF (fr (fbin .sub .f64 quarW (fq (fr Y) 3)))) (sineF (fr (fq (fr Y) 3))) (fbin .sub .f64 0 (sineF (fr (fq (fr Y) 3)))) (fbin .sub .f64 0 (sineF (fr (fbin .sub .f64 quarW (fq (fr Y) 3))))) rfl rfl rfl t0 t1 t2 t3 rfl R.pd R.pg (fun w => specSineWide_any _ R.gi R.gb R.g0 R.g1 R.g2 w) (fun w => specSineWide_any _ R.di R.db R.d0 R.d1 R.d2 w) rfl R.ps rfl R.pc R.okS R.okC R.okNS R.okNC hi hF tF' q0 q1 q2 w
    · intro R t0 t1 t2 t3 t4
      exact specPha_04 Y (fr Y) (fq (fr Y) 1) (fq (fr Y) 2) (fq (fr Y) 3) (fq (fr Y) 4) (fbin .sub .f64 quarW (fq (fr Y) 4)) (sineF (fr (fbin .sub .f64 quarW (fq (fr Y) 4)))) (sineF (fr (fq (fr Y) 4))) (fbin .sub .f64 0 (sineF (fr (fq (fr Y) 4)))) (fbin .sub .f64 0 (sineF (fr (fbin .sub .f64 quarW (fq (fr Y) 4))))) rfl rfl rfl rfl t0 t1 t2 t3 t4 rfl R.pd R.pg (fun w => specSineWide_any _ R.gi R.gb R.g0 R.g1 R.g2 w) (fun w => specSineWide_any _ R.di R.db R.d0 R.d1 R.d2 w) rfl R.ps rfl R.pc R.okS R.okC R.okNS R.okNC hi hF tF' q0 q1 q2 w
  · have hF : fbin .add .f64 (fr0 Y) 4607182418800017408 = fr Y := by unfold fr; rw [tF]; rfl
    refine small_any (Goal := fun A B => Calls Try.prog 67 #[.float .f64 Y] w (RetC (fconv .f64 A .f32) (fconv .f64 B .f32) w)) hd hlt ?_ ?_ ?_ ?_ ?_
    · intro R t0
      exact specPha_10 Y (fr Y)  (fbin .sub .f64 quarW (fq (fr Y) 0)) (sineF (fr (fbin .sub .f64 quarW (fq (fr Y) 0)))) (sineF (fr (fq (fr Y) 0))) (fbin .sub .f64 0 (sineF (fr (fq (fr Y) 0)))) (fbin .sub .f64 0 (sineF (fr (fbin .sub .f64 quarW (fq (fr Y) 0)))))  t0 rfl R.pd R.pg (fun w => specSineWide_any _ R.gi R.gb R.g0 R.g1 R.g2 w) (fun w => specSineWide_any _ R.di R.db R.d0 R.d1 R.d2 w) rfl R.ps rfl R.pc R.okS R.okC R.okNS R.okNC hi (fr0 Y) rfl hF tF q0 q1 q2 w
    · intro R t0 t1
      exact specPha_11 Y (fr Y) (fq (fr Y) 1) (fbin .sub .f64 quarW (fq (fr Y) 1)) (sineF (fr (fbin .sub .f64 quarW (fq (fr Y) 1)))) (sineF (fr (fq (fr Y) 1))) (fbin .sub .f64 0 (sineF (fr (fq (fr Y) 1)))) (fbin .sub .f64 0 (sineF (fr (fbin .sub .f64 quarW (fq (fr Y) 1))))) rfl t0 t1 rfl R.pd R.pg (fun w => specSineWide_any _ R.gi R.gb R.g0 R.g1 R.g2 w) (fun w => specSineWide_any _ R.di R.db R.d0 R.d1 R.d2 w) rfl R.ps rfl R.pc R.okS R.okC R.okNS R.okNC hi (fr0 Y) rfl hF tF q0 q1 q2 w
    · intro R t0 t1 t2
      exact specPha_12 Y (fr Y) (fq (fr Y) 1) (fq (fr Y) 2) (fbin .sub .f64 quarW (fq (fr Y) 2)) (sineF (fr (fbin .sub .f64 quarW (fq (fr Y) 2)))) (sineF (fr (fq (fr Y) 2))) (fbin .sub .f64 0 (sineF (fr (fq (fr Y) 2)))) (fbin .sub .f64 0 (sineF (fr (fbin .sub .f64 quarW (fq (fr Y) 2))))) rfl rfl t0 t1 t2 rfl R.pd R.pg (fun w => specSineWide_any _ R.gi R.gb R.g0 R.g1 R.g2 w) (fun w => specSineWide_any _ R.di R.db R.d0 R.d1 R.d2 w) rfl R.ps rfl R.pc R.okS R.okC R.okNS R.okNC hi (fr0 Y) rfl hF tF q0 q1 q2 w
    · intro R t0 t1 t2 t3
      exact specPha_13 Y (fr Y) (fq (fr Y) 1) (fq (fr Y) 2) (fq (fr Y) 3) (fbin .sub .f64 quarW (fq (fr Y) 3)) (sineF (fr (fbin .sub .f64 quarW (fq (fr Y) 3)))) (sineF (fr (fq (fr Y) 3))) (fbin .sub .f64 0 (sineF (fr (fq (fr Y) 3)))) (fbin .sub .f64 0 (sineF (fr (fbin .sub .f64 quarW (fq (fr Y) 3))))) rfl rfl rfl t0 t1 t2 t3 rfl R.pd R.pg (fun w => specSineWide_any _ R.gi R.gb R.g0 R.g1 R.g2 w) (fun w => specSineWide_any _ R.di R.db R.d0 R.d1 R.d2 w) rfl R.ps rfl R.pc R.okS R.okC R.okNS R.okNC hi (fr0 Y) rfl hF tF q0 q1 q2 w
    · intro R t0 t1 t2 t3 t4
      exact specPha_14 Y (fr Y) (fq (fr Y) 1) (fq (fr Y) 2) (fq (fr Y) 3) (fq (fr Y) 4) (fbin .sub .f64 quarW (fq (fr Y) 4)) (sineF (fr (fbin .sub .f64 quarW (fq (fr Y) 4)))) (sineF (fr (fq (fr Y) 4))) (fbin .sub .f64 0 (sineF (fr (fq (fr Y) 4)))) (fbin .sub .f64 0 (sineF (fr (fbin .sub .f64 quarW (fq (fr Y) 4))))) rfl rfl rfl rfl t0 t1 t2 t3 t4 rfl R.pd R.pg (fun w => specSineWide_any _ R.gi R.gb R.g0 R.g1 R.g2 w) (fun w => specSineWide_any _ R.di R.db R.d0 R.d1 R.d2 w) rfl R.ps rfl R.pc R.okS R.okC R.okNS R.okNC hi (fr0 Y) rfl hF tF q0 q1 q2 w
theorem convOk_nanP : convOk .f64 9221120237041090561 .f32 := .inl (by decide +kernel)
theorem run_nan_fromP (w : World) : (callFunc 153 #[.int .u64 9221120237041090561]).run Try.prog w = .ok (.value (.float .f64 9221120237041090561)) w := by kernel_rfl
theorem run_nan_from32 (w : World) : (callFunc 136 #[.int .u32 2143289344]).run Try.prog w = .ok (.value (.float .f32 2143289344)) w := by kernel_rfl
theorem conv_nanP : fconv .f64 9221120237041090561 .f32 = qnan .f32 := by decide +kernel
theorem num_one32 : isNaN .f32 1065353216 = false := by decide +kernel
theorem num_nul32 : isNaN .f32 0 = false := by decide +kernel
set_option maxRecDepth 100000 in
set_option maxHeartbeats 800000 in
theorem implPha_any (Y : Nat) (hY : Y < 18446744073709551616) (w : World) : Calls Try.prog 111 #[.float .f64 Y] w (RetC (phaT Y).1 (phaT Y).2 w) := by
  cases hf : isFin .f64 Y
  · have hT : phaT Y = (qnan .f32, qnan .f32) := by unfold phaT; rw [hf]; rfl
    have hz := run_nan_fromP
    have hc := conv_nanP
    rw [hT]
    go_enter Try.func111, Try.ntmps111
    go_wp2_with (first | ((with_reducible refine wpL_fconv ?_); refine ⟨_, _, _, rfl, Option.isSome_iff_exists.2 ⟨_, Try.underlying76⟩, Try.underlying32, FloatKind.noConfusion, convOk_nanP, fun s n => ?_⟩) | (go_at_call 133; refine (isFiniteWide_any _ _ hY).mono ?_; rintro e w' ⟨rfl, rfl⟩) | go_in)
    go_ret
    exact ⟨_, _, _, rfl, rfl⟩
  · obtain ⟨s, m, e, hd⟩ : ∃ s m e, FloatKind.decode .f64 Y = .number s m e := by
      unfold isFin at hf
      cases hd : FloatKind.decode .f64 Y with
      | nan => simp [hd, Ieee.Datum.isNaN] at hf
      | infinity => simp [hd, Ieee.Datum.isInfinity] at hf
      | number s m e => exact ⟨s, m, e, rfl⟩
    rcases small_or_big hd with ⟨hlt, g1, g2, g3⟩ | ⟨hge, g12, g3⟩
    · have hT : phaT Y = (fconv .f64 (phaQ (fr Y)).1 .f32, fconv .f64 (phaQ (fr Y)).2 .f32) := by unfold phaT; rw [hf, g3]; rfl
      rw [hT]
      exact implPha_small hY hf hd hlt g3 w
    · have hT : phaT Y = (1065353216, 0) := by unfold phaT; rw [hf, g3]; rfl
      rw [hT]
      have g3' : (FloatKind.f64.format.order (absw Y) 4841369599423283200 == some .gt || FloatKind.f64.format.order (absw Y) 4841369599423283200 == some .eq) = true := g3
      clear g3 g12 hge hd hT
      go_enter Try.func111, Try.ntmps111
      go_wp2_with (first | (go_at_call 133; refine (isFiniteWide_any _ _ hY).mono ?_; rintro e w' ⟨rfl, rfl⟩) | (go_at_call 139; refine (mathAbs_any _ _ hY).mono ?_; rintro e w' ⟨rfl, rfl⟩))
      go_ret
      exact ⟨0, 0, 0, by rw [pick_num num_one32, pick_num num_nul32]; rfl, rfl⟩
set_option maxRecDepth 100000 in
set_option maxHeartbeats 800000 in
theorem specPha_any (Y : Nat) (w : World) : Calls Try.prog 67 #[.float .f64 Y] w (RetC (phaT Y).1 (phaT Y).2 w) := by
  cases hf : isFin .f64 Y
  · have hT : phaT Y = (qnan .f32, qnan .f32) := by unfold phaT; rw [hf]; rfl
    have q0 : (FloatKind.f64.format.order (fbin .sub .f64 Y Y) 0 != some .eq) = true := by
      have := sub_self .f64 Y
      rw [hf] at this
      simp only [bne, this]; rfl
    have hp := order_pick_l .f64
    have hz := run_nan_from32
    obtain ⟨t, ht⟩ := word_pick (k := .f32) (b := qnan .f32) (by decide)
    rw [hT]
    have HT := Lib.hid ht
    clear ht hT
    go_enter Try.func67, Try.ntmps67
    go_wp2_with (first | ((with_reducible refine wpL_fbin ?_); refine ⟨_, _, _, rfl, rfl, rfl, fun s n => ?_⟩) | go_in)
    go_ret
    exact ⟨t, t, _, by rw [← HT.out]; rfl, rfl⟩
  · obtain ⟨s, m, e, hd⟩ : ∃ s m e, FloatKind.decode .f64 Y = .number s m e := by
      unfold isFin at hf
      cases hd : FloatKind.decode .f64 Y with
      | nan => simp [hd, Ieee.Datum.isNaN] at hf
      | infinity => simp [hd, Ieee.Datum.isInfinity] at hf
      | number s m e => exact ⟨s, m, e, rfl⟩
    rcases small_or_big hd with ⟨hlt, g1, g2, g3⟩ | ⟨hge, g12, g3⟩
    · have hT : phaT Y = (fconv .f64 (phaQ (fr Y)).1 .f32, fconv .f64 (phaQ (fr Y)).2 .f32) := by unfold phaT; rw [hf, g3]; rfl
      rw [hT]
      exact specPha_small hf hd hlt g1 g2 w
    · have hT : phaT Y = (1065353216, 0) := by unfold phaT; rw [hf, g3]; rfl
      have q0 : (FloatKind.f64.format.order (fbin .sub .f64 Y Y) 0 != some .eq) = false := by
        have := sub_self .f64 Y
        rw [hf] at this
        simp only [beq_iff_eq] at this
        rw [this]; rfl
      have hp := order_pick_l .f64
      rw [hT]
      clear g3 hge hd hT
      rcases g12 with g1 | ⟨g1, g2⟩
      · have g1' : (FloatKind.f64.format.order Y 4841369599423283200 == some .gt || FloatKind.f64.format.order Y 4841369599423283200 == some .eq) = true := g1
        clear g1
        go_enter Try.func67, Try.ntmps67
        go_wp2_with (first | ((with_reducible refine wpL_fbin ?_); refine ⟨_, _, _, rfl, rfl, rfl, fun s n => ?_⟩) | go_in)
        go_ret
        exact ⟨0, 0, _, by rw [pick_num num_one32, pick_num num_nul32]; rfl, rfl⟩
      · have g1' : (FloatKind.f64.format.order Y 4841369599423283200 == some .gt || FloatKind.f64.format.order Y 4841369599423283200 == some .eq) = false := g1
        clear g1
        go_enter Try.func67, Try.ntmps67
        go_wp2_with (first | ((with_reducible refine wpL_fbin ?_); refine ⟨_, _, _, rfl, rfl, rfl, fun s n => ?_⟩) | go_in)
        go_ret
        exact ⟨0, 0, _, by rw [pick_num num_one32, pick_num num_nul32]; rfl, rfl⟩
end Go.Proofs.Ytogmcinaoemnpaa
