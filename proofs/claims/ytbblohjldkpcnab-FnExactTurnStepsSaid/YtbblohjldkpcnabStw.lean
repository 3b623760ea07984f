
/- A function of steps that tells steps: what is told of both sides, and the law's walk. -/
import Derived.Test.YtbblohjldkpcnabMin
import Derived.Deep.Cut
import Derived.Deep.DeepCutAuto
namespace Go.Proofs.Ytbblohjldkpcnab
open Go Go.ChangeShapes Go.WideShapes Go.ChangeAt Go.RowKit
set_option linter.all false

/-- What the program tells: steps of the call's own, and whether. -/
def StU (n m : Nat) (X Y : Nat → Nat) (ok : Bool) (w : World) (e : Ending) (w' : World) : Prop := ∃ a c b d, e = .returned (.tuple #[.agg #[.slice a n c, .slice b m d], .bool ok]) ∧
  Mine w' w.heap.size n a c X ∧ Mine w' w.heap.size m b d Y ∧ Apart n m a b ∧ Below w.heap.size w w'
/-- What the model tells. -/
def StV (n m : Nat) (X Y : Nat → Nat) (ok : Bool) (w : World) (e : Ending) (w' : World) : Prop := ∃ a c b d, e = .returned (.tuple #[.agg #[.slice a n c, .slice b m d], .bool ok]) ∧
  Rd w' a n X ∧ Rd w' b m Y ∧ Below w.heap.size w w'
set_option maxRecDepth 100000 in
set_option maxHeartbeats 12800000 in
theorem lawTurn_in (W : World) (xa ya : Option Addr) (n cx m cy : Nat) (X Y : Nat → Nat) (hX : Rd W xa n X) (hY : Rd W ya m Y) (hs : (n : Int) + m ≤ 1048576)
    (p q : Nat) (R S : Nat → Nat) (ok : Bool) (hp : p ≤ 1048576) (hq : q ≤ 1048576)
    (HS : Hid (∀ xa ya cx cy w, Rd w xa n X → Rd w ya m Y → Calls Try.prog 44 #[.agg #[.slice xa n cx, .slice ya m cy]] w (StV p q R S ok w)))
    (HI : Hid (∀ xa ya cx cy w, Rd w xa n X → Rd w ya m Y → Calls Try.prog 46 #[.agg #[.slice xa n cx, .slice ya m cy]] w (StU p q R S ok w))) :
    Calls Try.prog 10 #[.agg #[.slice xa n cx, .slice ya m cy]] W fun e w' => e = .returned (.bool true) ∧ Below W.heap.size W w' := by
  have h1 : n ≤ 1048576 := by omega
  have h2 : m ≤ 1048576 := by omega
  have hbb : (ok != ok) = false := by simp
  have hq0 : (0 : Int) ≤ 1 + (p : Int) + (q : Int) := by omega
  have hq1 : (0 : Int) ≤ 1 + (n : Int) + (m : Int) := by omega
  obtain ⟨A1, hA1⟩ : ∃ A1, A1 = W.alloc (.cells #[.slice xa n cx, .slice ya m cy] 60) := ⟨_, rfl⟩
  have HA : Below W.heap.size W A1 := by rw [hA1]; exact (Below.refl _ _).alloc (Nat.le_refl _) _
  have RX := hX.below HA
  have RY := hY.below HA
  have HP : Box2 A1 W.heap.size (.slice xa n cx) (.slice ya m cy) := by rw [hA1]; exact box2_alloc ..
  have HPa := HP.1
  have HPb := HP.2
  clear hX hY
  go_enter Try.func10, Try.ntmps10
  go_wp2_with fail
  rw [← hA1]
  clear hA1
  have HB := Blw.refl A1
  go_wp2_with fail
  refine (szSteps_yes _ _ n m cx cy _ _ hs (by omega)).mono ?_
  rintro e0 w0 ⟨rfl, B0⟩
  replace RX := Rd.below (by exact RX) B0
  replace RY := Rd.below (by exact RY) B0
  clear HPa HPb
  replace HP := Box2.below (by exact HP) B0
  have HPa := HP.1
  have HPb := HP.2
  replace HB := Blw.next (by exact HB) B0
  clear B0
  go_wp2_with fail
  refine (toSteps_any _ _ _ _ _ _ X Y _ (by exact RX) (by exact RY) h1 h2).mono ?_
  rintro e0 w0 ⟨g0, g1, rfl, O0, O1, _, B0⟩
  have T1 := rd_own O0
  have T2 := rd_own O1
  clear O0 O1
  replace RX := Rd.below (by exact RX) B0
  replace RY := Rd.below (by exact RY) B0
  clear HPa HPb
  replace HP := Box2.below (by exact HP) B0
  have HPa := HP.1
  have HPb := HP.2
  replace HB := Blw.next (by exact HB) B0
  clear B0
  go_wp2_with fail
  refine (HS.out _ _ _ _ _ (by exact T1) (by exact T2)).mono ?_
  rintro e0 w0 ⟨a0, c0, b0, d0, rfl, V0, U0, B0⟩
  clear T1 T2
  replace RX := Rd.below (by exact RX) B0
  replace RY := Rd.below (by exact RY) B0
  clear HPa HPb
  replace HP := Box2.below (by exact HP) B0
  have HPa := HP.1
  have HPb := HP.2
  replace HB := Blw.next (by exact HB) B0
  clear B0
  have BA := (Below.refl _ w0).alloc (Nat.le_refl _) (.cells #[.slice a0 p c0, .slice b0 q d0] 62)
  replace V0 := Rd.below (by exact V0) BA
  replace U0 := Rd.below (by exact U0) BA
  replace RX := Rd.below (by exact RX) BA
  replace RY := Rd.below (by exact RY) BA
  clear HPa HPb
  replace HP := Box2.below (by exact HP) BA
  have HPa := HP.1
  have HPb := HP.2
  replace HB := Blw.next (by exact HB) BA
  have P0 := box2_alloc w0 (.slice a0 p c0) (.slice b0 q d0) 62
  have P0a := P0.1
  have P0b := P0.2
  clear BA
  go_wp2_with fail
  generalize w0.alloc (Obj.cells #[.slice a0 p c0, .slice b0 q d0] 62) = wA at *
  replace HA := HA.trans ((Blw.out (by exact HB)).mono HA.size)
  clear HB
  have HB := Blw.refl wA
  refine (toSteps_any _ _ _ _ _ _ X Y _ (by exact RX) (by exact RY) h1 h2).mono ?_
  rintro e0 w0 ⟨g0, g1, rfl, O0, O1, hgg, B0⟩
  clear HPa HPb P0a P0b
  replace HB := Blw.next (by exact HB) B0
  have M0 : Mine w0 wA.heap.size n (some ⟨g0, 0, none⟩) n X := .inr ⟨g0, rfl, O0⟩
  have M1 : Mine w0 wA.heap.size m (some ⟨g1, 0, none⟩) m Y := .inr ⟨g1, rfl, O1⟩
  have apx : Apart n m (some ⟨g0, 0, none⟩) (some ⟨g1, 0, none⟩) := .inr (.inr ⟨g0, g1, rfl, rfl, by omega⟩)
  clear O0 O1 B0 hgg
  have BA := (Below.refl _ w0).alloc (Nat.le_refl _) (.cells #[.slice (some ⟨g0, 0, none⟩) n n, .slice (some ⟨g1, 0, none⟩) m m] 62)
  replace M0 := Mine.below (by exact M0) BA
  replace M1 := Mine.below (by exact M1) BA
  replace HB := Blw.next (by exact HB) BA
  have Q := box2_alloc w0 (.slice (some ⟨g0, 0, none⟩) n n) (.slice (some ⟨g1, 0, none⟩) m m) 62
  have Qa := Q.1
  have Qb := Q.2
  clear BA
  go_wp2_with fail
  generalize hqb : w0.heap.size = qb at *
  generalize w0.alloc (Obj.cells #[.slice (some ⟨g0, 0, none⟩) n n, .slice (some ⟨g1, 0, none⟩) m m] 62) = wB at *
  clear hqb
  have F0 := M0.far
  have F1 := M1.far
  have hAB := HB.out.size
  refine (HI.out _ _ _ _ _ (by exact M0.rd) (by exact M1.rd)).mono ?_
  rintro e0 w0 ⟨a1, c1, b1, d1, rfl, G0, G1, ap, B0⟩
  replace HB := Blw.next (by exact HB) B0
  replace M0 := M0.below B0
  replace M1 := M1.below B0
  replace Q := Q.below B0
  have hsB := B0.size
  have FG0 := G0.far
  have FG1 := G1.far
  clear B0
  have BA := (Below.refl _ w0).alloc (Nat.le_refl _) (.cells #[.slice a1 p c1, .slice b1 q d1] 62)
  replace M0 := Mine.below (by exact M0) BA
  replace M1 := Mine.below (by exact M1) BA
  replace G0 := Mine.below (by exact G0) BA
  replace G1 := Mine.below (by exact G1) BA
  clear Qa Qb
  replace Q := Box2.below (by exact Q) BA
  have Qa := Q.1
  have Qb := Q.2
  replace HB := Blw.next (by exact HB) BA
  have G := box2_alloc w0 (.slice a1 p c1) (.slice b1 q d1) 62
  have Ga := G.1
  have Gb := G.2
  clear BA
  have hbg : wB.heap.size ≤ w0.heap.size := hsB
  have P0' := P0.below (Blw.out (by exact HB))
  have P0a := P0'.1
  have P0b := P0'.2
  go_wp2_with fail
  generalize hqc : w0.heap.size = gb at *
  generalize w0.alloc (Obj.cells #[.slice a1 p c1, .slice b1 q d1] 62) = wC at *
  clear hqc
  have HC := Blw.refl wC
  have V1 := V0.below HB.out
  have U1 := U0.below HB.out
  refine (eqSteps_any _ _ _ _ _ _ _ _ _ _ R S _ (by exact G0.rd) (by exact G1.rd) (by exact V1) (by exact U1) hp hq).mono ?_
  rintro e0 w0 ⟨rfl, B0⟩
  replace HC := HC.next B0
  clear B0 Qa Qb Ga Gb P0a P0b P0' V1 U1
  have hHW := HB.out
  have Q' := Q.below HC.out
  have Qa := Q'.1
  have Qb := Q'.2
  have HP' := (HP.below HB.out).below HC.out
  have HPa := HP'.1
  have HPb := HP'.2
  go_upto_region 10 with (fail)
  go_cut [45] (fun s wx => s = .bool false ∧ Blw wC wx)
  case first =>
    have RX1 := (RX.below HB.out).below HC.out
    have RY1 := (RY.below HB.out).below HC.out
    have T1 := (M0.below HC.out).rd
    have T2 := (M1.below HC.out).rd
    have Q0 := Q'
    clear HP' Q' HB
    have HB := HC
    clear HC
    go_region_with (first
      | (go_at_call 45; refine (toSteps_any _ _ _ _ _ _ X Y _ (by exact RX1) (by exact RY1) h1 h2).mono ?_; rintro e0 w5 ⟨g4, g5, rfl, O4, O5, _, B5⟩; have T5 := rd_own O4; have T6 := rd_own O5; have T1' := Rd.below (by exact T1) B5; have T2' := Rd.below (by exact T2) B5; have QQ := Box2.below (by exact Q0) B5; have Qa' := QQ.1; have Qb' := QQ.2; clear QQ Qa Qb; replace HB := Blw.next (by exact HB) B5)
      | (go_at_call 47; refine (eqSteps_any _ _ _ _ _ _ _ _ _ _ X Y _ (by exact T1') (by exact T2') (by exact T5) (by exact T6) h1 h2).mono ?_; rintro e0 w6 ⟨rfl, B6⟩; replace HB := Blw.next (by exact HB) B6))
    all_goals (go_wp2_with fail; go_meet; exact ⟨rfl, by exact HB⟩)
  case rest =>
    clear HC HPa HPb HP' Qa Qb Q'
    obtain ⟨rfl, HC⟩ := hcut
    have Q' := Q.below HC.out
    have Qa := Q'.1
    have Qb := Q'.2
    go_wp2_with fail
    refine (markMs_any wA.heap.size n n m m _ _ X Y 1 _ (by exact M0.below HC.out) (by exact M1.below HC.out) apx h1 h2 (by omega) (by omega)).mono ?_
    rintro e0 wD ⟨rfl, _, _, r⟩
    have HBD := (HB.next HC.out).nextB (restM_below (M0.below HC.out) (M1.below HC.out) (Nat.le_refl _) (Nat.le_refl _) (HB.next HC.out).out.size r)
    have GD := (G.below HC.out).rest (F0.mono hbg) (F1.mono hbg) r
    have G0D := (G0.below HC.out).rest F0 F1 r
    have G1D := (G1.below HC.out).rest F0 F1 r
    have VD := V0.below HBD.out
    have UD := U0.below HBD.out
    have PD := P0.below HBD.out
    clear r HC HB Q Qa Qb Q' M0 M1 G0 G1 apx
    have GDa := GD.1
    have GDb := GD.2
    have PDa := PD.1
    have PDb := PD.2
    have HD := Blw.refl wD
    go_wp2_with fail
    refine (eqSteps_any _ _ _ _ _ _ _ _ _ _ R S _ (by exact G0D.rd) (by exact G1D.rd) (by exact VD) (by exact UD) hp hq).mono ?_
    rintro e0 w0 ⟨rfl, B0⟩
    replace HD := HD.next B0
    clear B0 GDa GDb PDa PDb VD UD PD
    have GE := GD.below HD.out
    have GEa := GE.1
    have GEb := GE.2
    go_wp2_with fail
    refine (markMs_any wB.heap.size p c1 q d1 a1 b1 R S 1 _ (by exact G0D.below HD.out) (by exact G1D.below HD.out) ap hp hq (by omega) (by omega)).mono ?_
    rintro e0 wE ⟨rfl, K0, K1, r2⟩
    have HBE := (HBD.next HD.out).nextB (restM_below (G0D.below HD.out) (G1D.below HD.out) hAB hAB (HBD.next HD.out).out.size r2)
    have GF := (GD.below HD.out).rest FG0 FG1 r2
    clear GEa GEb GE r2 HD HBD GD G0D G1D
    have HE := Blw.refl wE
    have GFa := GF.1
    have GFb := GF.2
    go_wp2_with fail
    refine (heldMs_any wB.heap.size p c1 q d1 a1 b1 1 _ (by exact K0) (by exact K1) hp hq (by omega) (by omega)).mono ?_
    rintro e0 w0 ⟨rfl, B0⟩
    replace HE := HE.next B0
    clear B0 GFa GFb
    have HPE := HP.below (HBE.next HE.out).out
    have HPa := HPE.1
    have HPb := HPE.2
    have RXE := RX.below (HBE.next HE.out).out
    have RYE := RY.below (HBE.next HE.out).out
    go_wp2_with fail
    refine (toSteps_any _ _ _ _ _ _ X Y _ (by exact RXE) (by exact RYE) h1 h2).mono ?_
    rintro e0 w0 ⟨g4, g5, rfl, O4, O5, _, B0⟩
    replace HE := Blw.next (by exact HE) B0
    clear B0 HPa HPb HPE RXE RYE
    go_wp2_with fail
    refine (HI.out _ _ _ _ _ (by exact rd_own O4) (by exact rd_own O5)).mono ?_
    rintro e0 w0 ⟨a2, c2, b2, d2, rfl, H0, H1, _, B0⟩
    replace HE := Blw.next (by exact HE) B0
    clear B0 O4 O5
    have BA := (Below.refl _ w0).alloc (Nat.le_refl _) (.cells #[.slice a2 p c2, .slice b2 q d2] 62)
    have J := box2_alloc w0 (.slice a2 p c2) (.slice b2 q d2) 62
    have Ja := J.1
    have Jb := J.2
    replace HE := Blw.next (by exact HE) BA
    replace H0 := H0.below BA
    replace H1 := H1.below BA
    have PE := P0.below (HBE.next HE.out).out
    have PEa := PE.1
    have PEb := PE.2
    have VE := V0.below (HBE.next HE.out).out
    have UE := U0.below (HBE.next HE.out).out
    clear BA
    go_wp2_with fail
    refine (eqSteps_any _ _ _ _ _ _ _ _ _ _ R S _ (by exact H0.rd) (by exact H1.rd) (by exact VE) (by exact UE) hp hq).mono ?_
    rintro e0 w0 ⟨rfl, B0⟩
    replace HE := Blw.next (by exact HE) B0
    clear B0 PEa PEb Ja Jb J H0 H1 VE UE PE
    have GL := GF.below HE.out
    have GLa := GL.1
    have GLb := GL.2
    go_wp2_with fail
    refine (heldMs_any wB.heap.size p c1 q d1 a1 b1 1 _ (by exact K0.below HE.out) (by exact K1.below HE.out) hp hq (by omega) (by omega)).mono ?_
    rintro e0 w0 ⟨rfl, B0⟩
    replace HE := Blw.next (by exact HE) B0
    go_wp2
    go_ret
    exact ⟨rfl, HA.trans ((HBE.next HE.out).out.mono HA.size)⟩
end Go.Proofs.Ytbblohjldkpcnab
