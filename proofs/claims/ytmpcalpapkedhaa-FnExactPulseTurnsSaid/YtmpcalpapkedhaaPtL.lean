
/- Of any pulse the program tells the same four numbers as the model does; its answer owns its memory: for all arguments. -/
import Derived.Test.YtmpcalpapkedhaaPh1
import Derived.Test.YtmpcalpapkedhaaPti
namespace Go.Proofs.Ytmpcalpapkedhaa
open Go Go.ChangeShapes Go.WideShapes Go.ChangeAt Go.RowKit
set_option linter.all false

set_option maxRecDepth 100000 in
set_option maxHeartbeats 3200000 in
theorem specPulse_any (r o u t : Nat) (w : World) (W T Z1 Z2 q1 q2 x y : Nat) (b : Bool) (hP : Pt r o u t W T Z1 Z2 q1 q2 x y b) (p : Nat) (ok : Bool) (hok : Hid (ok = (okPul r o u t && finC (ptR Z1 y q1 q2) (ptI x y q1 q2) 4))) (hp : Hid (p = if ok = true then 4 else 0)) :
    Calls Try.prog 15 #[.agg #[.float .f32 r, .float .f32 o, .float .f32 u, .float .f32 t]] w (RetU p (ptR Z1 y q1 q2) (ptI x y q1 q2) ok w) := by
  have HV := Lib.hid (fun k w hB => specIsP_any r o u t k w hB)
  have HA := (Below.refl w.heap.size w).alloc (Nat.le_refl _) (Obj.cells #[.float .f32 r, .float .f32 o, .float .f32 u, .float .f32 t] 28)
  have HQ4 := Lib.hid (box4_alloc w r o u t 28)
  cases hv : okPul r o u t
  · have e : ok = false := by rw [hok.out, hv]; rfl
    subst e
    have e : p = 0 := by rw [hp.out]; rfl
    subst e
    rw [hv] at HV
    go_enter Try.func15, Try.ntmps15
    go_wp2_with fail
    refine (HV.out _ _ (by exact HQ4.out)).mono ?_
    rintro e1 w1 ⟨rfl, q, rfl⟩
    go_wp2
    go_ret2
    exact RetU.no (Below.drewN HA _)
  have hu : isFin .f32 u = true := by
    unfold okPul at hv
    simp only [Bool.and_eq_true] at hv
    exact hv.2.2
  rw [hv] at HV
  have HK := Lib.hid (show ok = finC (ptR Z1 y q1 q2) (ptI x y q1 q2) 4 by rw [hok.out, hv]; rfl)
  have HS := Lib.hid (fun k w hB => specPt_any r o u t k w hB hu W T Z1 Z2 q1 q2 x y b hP)
  clear hP hv hu hok
  go_enter Try.func15, Try.ntmps15
  go_wp2_with fail
  refine (HV.out _ _ (by exact HQ4.out)).mono ?_
  rintro e1 w1 ⟨rfl, q, rfl⟩
  go_wp2_with fail
  refine (HS.out _ _ (by exact HQ4.out)).mono ?_
  rintro e1 w1 ⟨v, A, B, rfl, o1, la, lb, bb⟩
  have hk : ok = finC A B 4 := by rw [HK.out, finC_like la lb]
  have hB : Below w.heap.size w w1 := (Below.drewN HA q).trans (bb.mono (by simp))
  have o2 : w1.ownsRow w.heap.size 98 1 v 4 (rowC A B 4) := own_mono0 o1 (by simp)
  clear o1 bb HA HQ4
  have O := Lib.hid o2
  have LA := Lib.hid la
  have LB := Lib.hid lb
  have HG := Lib.hid (fun (w1 : World) o => specGive_any v w.heap.size 4 A B w1 o (by omega) ok hk)
  obtain ⟨va, vc, rfl, _, _, _⟩ := rdC_of_own o2
  clear o2 la lb hk
  go_wp2_with fail
  refine (HG.out _ (by exact O.out)).mono ?_
  rintro e w2 ⟨rfl, q2, rfl⟩
  cases ok
  · have e : p = 0 := by rw [hp.out]; rfl
    subst e
    go_wp2
    go_ret2
    exact RetU.no (Below.drewN hB _)
  · have e : p = 4 := by rw [hp.out]; rfl
    subst e
    go_wp2
    go_ret2
    exact ⟨_, A, B, rfl, own_drew O.out _, LA.out, LB.out, Below.drewN hB _⟩
set_option maxRecDepth 100000 in
set_option maxHeartbeats 6400000 in
theorem lawPulseTurns_in (w0 : World) (a b c d : Nat) (p : Nat) (R I : Nat → Nat) (ok : Bool) (hp : p ≤ 1048576)
    (HS : Hid (∀ w, Calls Try.prog 15 #[.agg #[.float .f32 a, .float .f32 b, .float .f32 c, .float .f32 d]] w (RetU p R I ok w)))
    (HI : Hid (∀ w, Calls Try.prog 17 #[.agg #[.float .f32 a, .float .f32 b, .float .f32 c, .float .f32 d]] w (RetU p R I ok w))) :
    Calls Try.prog 3 #[.agg #[.float .f32 a, .float .f32 b, .float .f32 c, .float .f32 d]] w0 fun e w' => e = .returned (.bool true) ∧ Below w0.heap.size w0 w' := by
  have hbb : (ok != ok) = false := by simp
  have hq0 : (0 : Int) ≤ 1 + (p : Int) := by omega
  have HB := Blw.next (Blw.refl w0) ((Below.refl _ w0).alloc (Nat.le_refl _) (.cells #[.float .f32 a, .float .f32 b, .float .f32 c, .float .f32 d] 24))
  have HQ := Lib.hid (box4_alloc w0 a b c d 24)
  obtain ⟨q0, q1, q2, q3⟩ := HQ.out
  go_enter Try.func3, Try.ntmps3
  go_wp2_with fail
  refine (toPulse_any _ _ _ _ _).mono ?_
  rintro e0 w1 ⟨rfl, B0⟩
  replace HB := Blw.next (by exact HB) B0
  have HQ := Lib.hid (HQ.out.below B0)
  clear B0 q0 q1 q2 q3
  go_wp2_with fail
  refine (HS.out _).mono ?_
  rintro e0 wA ⟨v0, A0, I0, rfl, V0, La, Lb, B0⟩
  replace HB := Blw.next (by exact HB) B0
  have HQ := Lib.hid (HQ.out.below B0)
  obtain ⟨a0, c0, rfl, _, _, V1⟩ := rdC_of_own V0
  clear V0 B0
  obtain ⟨q0, q1, q2, q3⟩ := HQ.out
  have HL := Blw.refl wA
  go_wp2_with fail
  refine (toPulse_any _ _ _ _ _).mono ?_
  rintro e0 w2 ⟨rfl, B0⟩
  replace HL := Blw.next (by exact HL) B0
  have hAB := HL.out.size
  clear B0 q0 q1 q2 q3
  go_wp2_with fail
  refine (HI.out _).mono ?_
  rintro e0 wC ⟨v1, A2, I2, rfl, G0, Lc, Ld, B0⟩
  replace HL := Blw.next (by exact HL) B0
  clear B0
  obtain ⟨a1, c1, rfl, _, _, G1⟩ := rdC_of_own G0
  have V2 := V1.below HL.out
  have HE1 := Lib.hid (fun i (hi : i < p) => (Lc i hi).trans (La i hi).symm)
  have HE2 := Lib.hid (fun i (hi : i < p) => (Ld i hi).trans (Lb i hi).symm)
  clear Lc Ld
  go_wp2_with fail
  refine (eqC_any _ _ p _ _ A2 I2 A0 I0 _ (by exact G1) (by exact V2) hp HE1.out HE2.out).mono ?_
  rintro e0 w3 ⟨rfl, q, rfl⟩
  replace HL := HL.next (Below.drewN (Below.refl _ _) q)
  clear V2 G1
  go_wp2_with fail
  refine (markC_any w2.heap.size _ p A2 I2 1 _ (by exact own_drew G0 q) hp (by omega) (by omega)).mono ?_
  rintro e0 wE ⟨rfl, K0, Bm⟩
  replace HL := HL.nextB (Bm.mono hAB)
  clear G0 Bm
  go_wp2_with fail
  refine (heldC_any w2.heap.size _ p 1 _ (by exact K0) hp (by omega) (by omega)).mono ?_
  rintro e0 w4 ⟨rfl, rfl⟩
  have HE := Blw.refl wE
  obtain ⟨q0, q1, q2, q3⟩ := HQ.out.below HL.out
  go_wp2_with fail
  refine (toPulse_any _ _ _ _ _).mono ?_
  rintro e0 w5 ⟨rfl, B0⟩
  replace HE := Blw.next (by exact HE) B0
  clear B0 q0 q1 q2 q3
  go_wp2_with fail
  refine (HI.out _).mono ?_
  rintro e0 w6 ⟨v2, A3, I3, rfl, H0, Le, Lf, B0⟩
  replace HE := Blw.next (by exact HE) B0
  clear B0
  obtain ⟨a2, c2, rfl, _, _, H1⟩ := rdC_of_own H0
  clear H0
  have VE := V1.below (HL.next HE.out).out
  have HE3 := Lib.hid (fun i (hi : i < p) => (Le i hi).trans (La i hi).symm)
  have HE4 := Lib.hid (fun i (hi : i < p) => (Lf i hi).trans (Lb i hi).symm)
  clear Le Lf
  go_wp2_with fail
  refine (eqC_any _ _ p _ _ A3 I3 A0 I0 _ (by exact H1) (by exact VE) hp HE3.out HE4.out).mono ?_
  rintro e0 w7 ⟨rfl, q8, rfl⟩
  replace HE := HE.next (Below.drewN (Below.refl _ _) q8)
  clear H1 VE
  go_wp2_with fail
  refine (heldC_any w2.heap.size _ p 1 _ (by exact own_below K0 HE.out) hp (by omega) (by omega)).mono ?_
  rintro e0 w8 ⟨rfl, rfl⟩
  go_wp2
  go_ret
  exact ⟨rfl, HB.out.trans ((HL.next HE.out).out.mono HB.out.size)⟩
theorem lawPulseTurns_any (W : World) (a b c d : Nat) (_ : a < 4294967296 ∧ b < 4294967296 ∧ c < 4294967296 ∧ d < 4294967296) :
    Calls Try.prog 3 #[.agg #[.float .f32 a, .float .f32 b, .float .f32 c, .float .f32 d]] W fun e w' => e = .returned (.bool true) ∧ Below W.heap.size W w' := by
  obtain ⟨V, T, Z1, Z2, q1, q2, x, y, k, hP⟩ := pt_all a b c d
  have hp : (if (okPul a b c d && finC (ptR Z1 y q1 q2) (ptI x y q1 q2) 4) = true then 4 else 0) ≤ 1048576 := by split <;> omega
  exact lawPulseTurns_in W a b c d _ _ _ _ hp (Lib.hid fun w => specPulse_any a b c d w V T Z1 Z2 q1 q2 x y k hP _ _ (Lib.hid rfl) (Lib.hid rfl)) (Lib.hid fun w => implPt_any a b c d w V T Z1 Z2 q1 q2 x y k hP _ _ (Lib.hid rfl) (Lib.hid rfl))
end Go.Proofs.Ytmpcalpapkedhaa
