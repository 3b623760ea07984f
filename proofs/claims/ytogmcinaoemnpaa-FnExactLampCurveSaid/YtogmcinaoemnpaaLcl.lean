
/- Of any places and waves the program tells the curve of the lamp just where the model does, and the same; its answer owns its memory and the lists are not changed: for all arguments. -/
import Derived.Test.YtogmcinaoemnpaaLci
import Derived.Test.YtogmcinaoemnpaaLcs
import Derived.Test.YtogmcinaoemnpaaLiC
import Derived.Test.YtogmcinaoemnpaaLaw
namespace Go.Proofs.Ytogmcinaoemnpaa
set_option linter.all false
open Go Go.ChangeShapes Go.WideShapes Go.ChangeAt Go.RowKit

set_option maxRecDepth 100000 in
set_option maxHeartbeats 1600000 in
theorem implLc_no (xa ya : Option Addr) (n m cx cy : Nat) (X Y : Nat → Nat) (w : World) (hX : Rd w xa n X) (hY : Rd w ya m Y) (hn : n ≤ 1048576) (hm : m ≤ 1048576) (hk : prsB X Y n m 3 16 = false) (R : Nat → Nat) :
    Calls Try.prog 17 #[.slice xa n cx, .slice ya m cy] w (OutRet R 0 false w) := by
  have HP := Lib.hid (fun w => arePairs_any xa ya n m cx cy X Y 3 16 w)
  rw [hk] at HP
  clear hk
  go_enter Try.func17, Try.ntmps17
  go_wp2_with fail
  refine (HP.out _ (by exact hX) (by exact hY) hn hm).mono ?_
  rintro e w1 ⟨rfl, q, rfl⟩
  go_wp2
  go_ret2
  exact OutRet.no (Below.drewN (Below.refl _ _) _)
set_option maxRecDepth 100000 in
set_option maxHeartbeats 1600000 in
theorem specLc_no (xa ya : Option Addr) (n m cx cy : Nat) (X Y : Nat → Nat) (w : World) (hX : Rd w xa n X) (hY : Rd w ya m Y) (hn : n ≤ 1048576) (hm : m ≤ 1048576) (hk : prsB X Y n m 3 16 = false) (R : Nat → Nat) :
    Calls Try.prog 16 #[.slice xa n cx, .slice ya m cy] w (OutRet R 0 false w) := by
  have HP := Lib.hid (fun w => l06Lamps_any xa ya n m cx cy X Y 3 w)
  rw [hk] at HP
  clear hk
  go_enter Try.func16, Try.ntmps16
  go_wp2_with fail
  refine (HP.out _ (by exact hX) (by exact hY) hn hm).mono ?_
  rintro e w1 ⟨rfl, q, rfl⟩
  go_wp2
  go_ret2
  exact OutRet.no (Below.drewN (Below.refl _ _) _)
/-- What is told of LampCurve. -/
def RetLampCurve (R0 : Nat → Nat) (m0 : Nat) (r1 : Bool) (w : World) (e : Ending) (w' : World) : Prop := ∃ (v0 : Value) (Y0 : Nat → Nat), e = .returned (.tuple #[v0, .bool r1]) ∧ w'.ownsRow w.heap.size 32 1 v0 m0 (rowOf Y0 m0) ∧ Like Y0 R0 m0 ∧ m0 ≤ 1048576 ∧ Below w.heap.size w w'
theorem OutRet.lc {R : Nat → Nat} {m : Nat} {ok : Bool} {w w' : World} {e : Ending} (hm : m ≤ 1048576) (h : OutRet R m ok w e w') : RetLampCurve R m ok w e w' := by
  obtain ⟨v, X, h1, h2, h3, h4⟩ := h
  exact ⟨v, X, h1, h2, h3, hm, h4⟩
theorem bothLampCurve (n0 : Nat) (X0 : Nat → Nat) (h0 : n0 ≤ 1048576) (n1 : Nat) (X1 : Nat → Nat) (h1 : n1 ≤ 1048576) : ∃ (R : Nat → Nat) (m : Nat) (ok : Bool),
    (∀ (x0 : Option Addr) (c0 : Nat) (x1 : Option Addr) (c1 : Nat) (w : World), Rd w x0 n0 X0 → Rd w x1 n1 X1 → Calls Try.prog 16 #[.slice x0 n0 c0, .slice x1 n1 c1] w (RetLampCurve R m ok w)) ∧
    ∀ (x0 : Option Addr) (c0 : Nat) (x1 : Option Addr) (c1 : Nat) (w : World), Rd w x0 n0 X0 → Rd w x1 n1 X1 → Calls Try.prog 17 #[.slice x0 n0 c0, .slice x1 n1 c1] w (RetLampCurve R m ok w) := by
  cases hk : prsB X0 X1 n0 n1 3 16
  · exact ⟨fun _ => 0, 0, false, fun x0 c0 x1 c1 w hX hV => (specLc_no x0 x1 n0 n1 c0 c1 X0 X1 w hX hV h0 h1 hk _).mono fun e w' h => h.lc (by omega),
      fun x0 c0 x1 c1 w hX hV => (implLc_no x0 x1 n0 n1 c0 c1 X0 X1 w hX hV h0 h1 hk _).mono fun e w' h => h.lc (by omega)⟩
  · obtain ⟨a1, a2, a3, _, _⟩ := prsB_at hk
    subst a3
    have hp : (if lcG X0 X1 n1 = true then 3 else 0) ≤ 1048576 := by split <;> omega
    exact ⟨_, _, _, fun x0 c0 x1 c1 w hX hV => (specLc_yes x0 x1 n1 c0 c1 X0 X1 w hX hV hk (by omega) (by omega) _ _ (Lib.hid rfl) (Lib.hid rfl)).mono fun e w' h => h.lc hp,
      fun x0 c0 x1 c1 w hX hV => (implLc_yes x0 x1 n1 c0 c1 X0 X1 w hX hV hk (by omega) (by omega) _ _ (Lib.hid rfl) (Lib.hid rfl)).mono fun e w' h => h.lc hp⟩
set_option maxRecDepth 100000 in
set_option maxHeartbeats 6400000 in
theorem lawLampCurve_in (W : World) (x0 : Option Addr) (n0 c0 : Nat) (X0 : Nat → Nat) (hX0 : Rd W x0 n0 X0) (x1 : Option Addr) (n1 c1 : Nat) (X1 : Nat → Nat) (hX1 : Rd W x1 n1 X1) (h0 : n0 ≤ 1048576) (h1 : n1 ≤ 1048576) (R0 : Nat → Nat) (m0 : Nat) (r1 : Bool) (HS : Hid (∀ (x0 : Option Addr) (c0 : Nat) (x1 : Option Addr) (c1 : Nat) (w : World), Rd w x0 n0 X0 → Rd w x1 n1 X1 → Calls Try.prog 16 #[.slice x0 n0 c0, .slice x1 n1 c1] w (RetLampCurve R0 m0 r1 w))) (HI : Hid (∀ (x0 : Option Addr) (c0 : Nat) (x1 : Option Addr) (c1 : Nat) (w : World), Rd w x0 n0 X0 → Rd w x1 n1 X1 → Calls Try.prog 17 #[.slice x0 n0 c0, .slice x1 n1 c1] w (RetLampCurve R0 m0 r1 w))) :
    Calls Try.prog 4 #[.slice x0 n0 c0, .slice x1 n1 c1] W fun e w' => e = .returned (.bool true) ∧ Below W.heap.size W w' := by
  have hcv := fun (R : Nat) (s t : Nat) => show canon .f64 (pick .f64 (fconv .f32 (pick .f32 R s) .f64) t) = canon .f64 (fconv .f32 R .f64) by rw [canon_pick, fconv_pick]
  have hcw := fun (R : Nat) (s t : Nat) => show canon .f64 (pick .f64 R s) = canon .f64 (pick .f64 R t) by rw [canon_pick, canon_pick]
  have HCV := Lib.hid hcv
  have HCW := Lib.hid hcw
  clear hcv hcw
  have hnb1 : (r1 != r1) = false := by simp
  have HB := Blw.refl W
  go_enter Try.func4, Try.ntmps4
  go_wp2_with fail
  refine (toF_any _ _ _ X0 _ (by exact hX0.below (Blw.out (by exact HB))) h0).mono ?_
  rintro e0 w0 ⟨rfl, O0, B0⟩
  replace HB := Blw.next (by exact HB) B0
  have C0 := O0
  clear O0 B0
  go_wp2_with fail
  refine (toF_any _ _ _ X1 _ (by exact hX1.below (Blw.out (by exact HB))) h1).mono ?_
  rintro e0 w0 ⟨rfl, O0, B0⟩
  replace C0 := own_below (by exact C0) B0
  replace HB := Blw.next (by exact HB) B0
  have C1 := O0
  clear O0 B0
  go_wp2_with fail
  refine (HS.out _ _ _ _ _ (rd_own (by exact C0)) (rd_own (by exact C1))).mono ?_
  rintro e0 w1 ⟨vw0, Yw0, rfl, Ow0, Lw0, mw0, B0⟩
  clear C0
  clear C1
  replace HB := Blw.next (by exact HB) B0
  clear B0
  have Z0 := hX0.below HB.out
  have Z1 := hX1.below HB.out
  obtain ⟨xw0, cw0, rfl, _, _, Rw0⟩ := rd_of_own Ow0
  clear Ow0
  have HL := Blw.refl w1
  have E0 := (Blw.out (by exact HL)).size
  go_wp2_with fail
  refine (toF_any _ _ _ X0 _ (by exact Z0.below (Blw.out (by exact HL))) h0).mono ?_
  rintro e0 w0 ⟨rfl, O0, B0⟩
  replace HL := Blw.next (by exact HL) B0
  have D0 := O0
  clear O0 B0
  have E1 := (Blw.out (by exact HL)).size
  have Q0_1 := own_lt (by exact D0)
  go_wp2_with fail
  refine (toF_any _ _ _ X1 _ (by exact Z1.below (Blw.out (by exact HL))) h1).mono ?_
  rintro e0 w0 ⟨rfl, O0, B0⟩
  replace D0 := own_below (by exact D0) B0
  replace HL := Blw.next (by exact HL) B0
  have D1 := O0
  clear O0 B0
  have Qg0 := own_lt (by exact D0)
  have Qg1 := own_lt (by exact D1)
  have Eg := (Blw.out (by exact HL)).size
  go_wp2_with fail
  refine (HI.out _ _ _ _ _ (rd_own (by exact D0)) (rd_own (by exact D1))).mono ?_
  rintro e0 w2 ⟨vg0, Yg0, rfl, Og0, Lg0, mg0, B0⟩
  replace D0 := own_below (by exact D0) B0
  replace D1 := own_below (by exact D1) B0
  replace HL := Blw.next (by exact HL) B0
  clear B0
  have O_0 := Og0
  obtain ⟨xg0, cg0, rfl, _, _, Rg0⟩ := rd_of_own O_0
  clear O_0
  go_wp2_with fail
  refine (eqF_any _ _ _ _ _ Yg0 Yw0 _ (by exact Rg0) (by exact Rw0.below (Blw.out (by exact HL))) mw0 (fun i hi => (Lg0 i hi).trans (Lw0 i hi).symm)).mono ?_
  rintro e0 w0 ⟨rfl, q, rfl⟩
  go_wp2_with fail
  refine (toF_any _ _ _ X0 _ (by exact Z0.below (Blw.out (by exact HL))) h0).mono ?_
  rintro e0 w0 ⟨rfl, O0, B0⟩
  replace D0 := own_below (by exact D0) B0
  replace D1 := own_below (by exact D1) B0
  replace Og0 := own_below (by exact Og0) B0
  replace HL := Blw.next (by exact HL) B0
  have K0 := O0
  clear O0 B0
  go_wp2_with fail
  refine (eqF_any _ _ _ _ _ X0 X0 _ (by exact rd_own (by exact D0)) (by exact rd_own (by exact K0)) h0 (fun _ _ => rfl)).mono ?_
  rintro e0 w0 ⟨rfl, q, rfl⟩
  clear K0
  go_wp2_with fail
  refine (toF_any _ _ _ X1 _ (by exact Z1.below (Blw.out (by exact HL))) h1).mono ?_
  rintro e0 w0 ⟨rfl, O0, B0⟩
  replace D0 := own_below (by exact D0) B0
  replace D1 := own_below (by exact D1) B0
  replace Og0 := own_below (by exact Og0) B0
  replace HL := Blw.next (by exact HL) B0
  have K1 := O0
  clear O0 B0
  go_wp2_with fail
  refine (eqF_any _ _ _ _ _ X1 X1 _ (by exact rd_own (by exact D1)) (by exact rd_own (by exact K1)) h1 (fun _ _ => rfl)).mono ?_
  rintro e0 w0 ⟨rfl, q, rfl⟩
  clear K1
  go_wp2_with fail
  refine (markX_any _ _ n0 _ X0 _ _ (by exact D0) h0 (by omega) (by omega)).mono ?_
  rintro e0 w0 ⟨rfl, NM⟩
  replace D1 := own_only (by exact D1) (by exact Q0_1) NM
  replace Og0 := own_only (by exact Og0) (by exact Qg0) NM
  replace HL := Blw.only (by exact HL) E0 NM
  clear NM D0
  go_wp2_with fail
  refine (markX_any _ _ n1 _ X1 _ _ (by exact D1) h1 (by omega) (by omega)).mono ?_
  rintro e0 w0 ⟨rfl, NM⟩
  replace Og0 := own_only (by exact Og0) (by exact Qg1) NM
  replace HL := Blw.only (by exact HL) E1 NM
  clear NM D1
  have hk1 : (0 : Int) ≤ 1 + (n0 : Int) + (n1 : Int) := by omega
  replace Rg0 := rd_own' (by exact Og0)
  go_wp2_with fail
  refine (eqF_any _ _ _ _ _ Yg0 Yw0 _ (by exact Rg0) (by exact Rw0.below (Blw.out (by exact HL))) mw0 (fun i hi => (Lg0 i hi).trans (Lw0 i hi).symm)).mono ?_
  rintro e0 w0 ⟨rfl, q, rfl⟩
  clear Rg0
  go_wp2_with fail
  refine (markF_any _ _ m0 Yg0 _ _ (by exact Og0) mg0 (by omega) (by omega)).mono ?_
  rintro e0 w0 ⟨rfl, Ok0, B0⟩
  replace HL := Blw.nextB (by exact HL) (B0.mono Eg)
  clear B0 Og0
  have hm1 : (0 : Int) ≤ 1 + (m0 : Int) := by omega
  go_wp2_with fail
  refine (heldF_any _ _ m0 _ _ (by exact Ok0) mg0 (by omega) (by omega)).mono ?_
  rintro e0 w0 ⟨rfl, rfl⟩
  go_wp2_with fail
  refine (toF_any _ _ _ X0 _ (by exact Z0.below (Blw.out (by exact HL))) h0).mono ?_
  rintro e0 w0 ⟨rfl, O0, B0⟩
  replace Ok0 := own_below (by exact Ok0) B0
  replace HL := Blw.next (by exact HL) B0
  have C0 := O0
  clear O0 B0
  go_wp2_with fail
  refine (toF_any _ _ _ X1 _ (by exact Z1.below (Blw.out (by exact HL))) h1).mono ?_
  rintro e0 w0 ⟨rfl, O0, B0⟩
  replace C0 := own_below (by exact C0) B0
  replace Ok0 := own_below (by exact Ok0) B0
  replace HL := Blw.next (by exact HL) B0
  have C1 := O0
  clear O0 B0
  go_wp2_with fail
  refine (HI.out _ _ _ _ _ (rd_own (by exact C0)) (rd_own (by exact C1))).mono ?_
  rintro e0 w3 ⟨vh0, Yh0, rfl, Oh0, Lh0, mh0, B0⟩
  replace Ok0 := own_below (by exact Ok0) B0
  clear C0
  clear C1
  replace HL := Blw.next (by exact HL) B0
  clear B0
  obtain ⟨xh0, ch0, rfl, _, _, Rh0⟩ := rd_of_own Oh0
  clear Oh0
  go_wp2_with fail
  refine (eqF_any _ _ _ _ _ Yh0 Yw0 _ (by exact Rh0) (by exact Rw0.below (Blw.out (by exact HL))) mw0 (fun i hi => (Lh0 i hi).trans (Lw0 i hi).symm)).mono ?_
  rintro e0 w0 ⟨rfl, q, rfl⟩
  clear Rh0
  go_wp2_with fail
  refine (heldF_any _ _ m0 _ _ (by exact Ok0) mg0 (by omega) (by omega)).mono ?_
  rintro e0 w0 ⟨rfl, rfl⟩
  go_wp2
  go_ret
  exact ⟨rfl, (Blw.out (by exact HB)).trans ((Blw.out (by exact HL)).mono (Blw.out (by exact HB)).size)⟩
set_option maxRecDepth 100000 in
set_option maxHeartbeats 1600000 in
theorem lawLampCurve_any (W : World) (x0 : Option Addr) (n0 c0 : Nat) (X0 : Nat → Nat) (hX0 : Rd W x0 n0 X0) (x1 : Option Addr) (n1 c1 : Nat) (X1 : Nat → Nat) (hX1 : Rd W x1 n1 X1) :
    Calls Try.prog 4 #[.slice x0 n0 c0, .slice x1 n1 c1] W fun e w' => e = .returned (.bool true) ∧ Below W.heap.size W w' := by
  by_cases h0 : n0 ≤ 1048576
  · skip
    by_cases h1 : n1 ≤ 1048576
    · skip
      obtain ⟨R0, m0, r1, hs, hi⟩ := bothLampCurve n0 X0 h0 n1 X1 h1
      exact lawLampCurve_in W x0 n0 c0 X0 hX0 x1 n1 c1 X1 hX1 h0 h1 R0 m0 r1 (Lib.hid hs) (Lib.hid hi)
    · have h' : (1048576 : Int) < (n1 : Int) := by omega
      go_enter Try.func4, Try.ntmps4
      go_wp2
      go_ret
      exact ⟨rfl, (Blw.refl W).out⟩
  · have h' : (1048576 : Int) < (n0 : Int) := by omega
    go_enter Try.func4, Try.ntmps4
    go_wp2
    go_ret
    exact ⟨rfl, (Blw.refl W).out⟩
end Go.Proofs.Ytogmcinaoemnpaa
