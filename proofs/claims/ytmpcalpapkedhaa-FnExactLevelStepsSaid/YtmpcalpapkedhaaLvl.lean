/- For all levels, rates, shares and steps the program tells the shares behind the steps just where the model does, and the same; the lists are not changed: for all arguments. -/
import Derived.Test.YtmpcalpapkedhaaLvi
import Derived.Test.YtmpcalpapkedhaaLvf
import Derived.Test.YtmpcalpapkedhaaLiC
import Derived.Test.YtmpcalpapkedhaaLaw
namespace Go.Proofs.Ytmpcalpapkedhaa
set_option linter.all false
open Go Go.ChangeShapes Go.WideShapes Go.ChangeAt Go.RowKit

/-- What is told of LevelSteps. -/
def RetLevelSteps (R0 : Nat → Nat) (m0 : Nat) (r1 : Bool) (w : World) (e : Ending) (w' : World) : Prop := ∃ (v0 : Value) (Y0 : Nat → Nat), e = .returned (.tuple #[v0, .bool r1]) ∧ w'.ownsRow w.heap.size 22 1 v0 m0 (rowOf Y0 m0) ∧ Like Y0 R0 m0 ∧ m0 ≤ 1048576 ∧ Below w.heap.size w w'
theorem bothLevelSteps (a0 : Int) (_ : (Lit.int .i64 a0).wf = true) (n1 : Nat) (X1 : Nat → Nat) (h1 : n1 ≤ 1048576) (n2 : Nat) (X2 : Nat → Nat) (h2 : n2 ≤ 1048576) (a3 : Nat) (_ : (Lit.float .f32 a3).wf = true) (a4 : Int) (_ : (Lit.int .i64 a4).wf = true) :
    ∃ (R : Nat → Nat) (m : Nat) (ok : Bool), (∀ (x1 : Option Addr) (c1 : Nat) (x2 : Option Addr) (c2 : Nat) (w : World), Rd w x1 n1 X1 → n1 ≤ c1 → Rd w x2 n2 X2 → Calls Try.prog 61 #[.int .i64 a0, .slice x1 n1 c1, .slice x2 n2 c2, .float .f32 a3, .int .i64 a4] w (RetLevelSteps R m ok w)) ∧
      ∀ (x1 : Option Addr) (c1 : Nat) (x2 : Option Addr) (c2 : Nat) (w : World), Rd w x1 n1 X1 → n1 ≤ c1 → Rd w x2 n2 X2 → Calls Try.prog 62 #[.int .i64 a0, .slice x1 n1 c1, .slice x2 n2 c2, .float .f32 a3, .int .i64 a4] w (RetLevelSteps R m ok w) := by
  obtain ⟨ok, hok⟩ : ∃ ok, ok = lvB a0 n1 X1 n2 X2 a3 a4 := ⟨_, rfl⟩
  obtain ⟨p, hp⟩ : ∃ p, p = if ok = true then n2 else 0 := ⟨_, rfl⟩
  have hpm : p ≤ 1048576 := by rw [hp]; split <;> omega
  have conv : ∀ {w : World} {e : Ending} {w' : World}, OutRet (lvR n2 X1 X2 a3 a4) p ok w e w' → RetLevelSteps (lvR n2 X1 X2 a3 a4) p ok w e w' := fun ⟨v, Z, he, ho, hL, hB⟩ => ⟨v, Z, he, ho, hL, hpm, hB⟩
  exact ⟨_, _, _, fun x1 c1 x2 c2 w hA _ hX => (specLv_any a0 x1 x2 n1 c1 n2 c2 X1 X2 a3 a4 w hA hX h1 h2 p ok (Lib.hid hok) (Lib.hid hp)).mono fun e w' h => conv h,
    fun x1 c1 x2 c2 w hA hc hX => (implLv_any a0 x1 x2 n1 c1 n2 c2 X1 X2 a3 a4 w hA hX hc h1 h2 p ok (Lib.hid hok) (Lib.hid hp)).mono fun e w' h => conv h⟩
set_option maxRecDepth 100000 in
set_option maxHeartbeats 6400000 in
theorem lawLevelSteps_in (W : World) (a0 : Int) (_wf0 : (Lit.int .i64 a0).wf = true) (x1 : Option Addr) (n1 c1 : Nat) (X1 : Nat → Nat) (hX1 : Rd W x1 n1 X1) (x2 : Option Addr) (n2 c2 : Nat) (X2 : Nat → Nat) (hX2 : Rd W x2 n2 X2) (a3 : Nat) (_wf3 : (Lit.float .f32 a3).wf = true) (a4 : Int) (_wf4 : (Lit.int .i64 a4).wf = true) (h1 : n1 ≤ 1048576) (h2 : n2 ≤ 1048576) (R0 : Nat → Nat) (m0 : Nat) (r1 : Bool) (HS : Hid (∀ (x1 : Option Addr) (c1 : Nat) (x2 : Option Addr) (c2 : Nat) (w : World), Rd w x1 n1 X1 → n1 ≤ c1 → Rd w x2 n2 X2 → Calls Try.prog 61 #[.int .i64 a0, .slice x1 n1 c1, .slice x2 n2 c2, .float .f32 a3, .int .i64 a4] w (RetLevelSteps R0 m0 r1 w))) (HI : Hid (∀ (x1 : Option Addr) (c1 : Nat) (x2 : Option Addr) (c2 : Nat) (w : World), Rd w x1 n1 X1 → n1 ≤ c1 → Rd w x2 n2 X2 → Calls Try.prog 62 #[.int .i64 a0, .slice x1 n1 c1, .slice x2 n2 c2, .float .f32 a3, .int .i64 a4] w (RetLevelSteps R0 m0 r1 w))) :
    Calls Try.prog 13 #[.int .i64 a0, .slice x1 n1 c1, .slice x2 n2 c2, .float .f32 a3, .int .i64 a4] W fun e w' => e = .returned (.bool true) ∧ Below W.heap.size W w' := by
  have hcv := fun (R : Nat) (s t : Nat) => show canon .f64 (pick .f64 (fconv .f32 (pick .f32 R s) .f64) t) = canon .f64 (fconv .f32 R .f64) by rw [canon_pick, fconv_pick]
  have hcw := fun (R : Nat) (s t : Nat) => show canon .f64 (pick .f64 R s) = canon .f64 (pick .f64 R t) by rw [canon_pick, canon_pick]
  have HCV := Lib.hid hcv
  have HCW := Lib.hid hcw
  clear hcv hcw
  have hnb1 : (r1 != r1) = false := by simp
  have HB := Blw.refl W
  go_enter Try.func13, Try.ntmps13
  go_wp2_with fail
  refine (toF_any _ _ _ X1 _ (by exact hX1.below (Blw.out (by exact HB))) h1).mono ?_
  rintro e0 w0 ⟨rfl, O0, B0⟩
  replace HB := Blw.next (by exact HB) B0
  have C1 := O0
  clear O0 B0
  go_wp2_with fail
  refine (toF_any _ _ _ X2 _ (by exact hX2.below (Blw.out (by exact HB))) h2).mono ?_
  rintro e0 w0 ⟨rfl, O0, B0⟩
  replace C1 := own_below (by exact C1) B0
  replace HB := Blw.next (by exact HB) B0
  have C2 := O0
  clear O0 B0
  go_wp2_with fail
  refine (HS.out _ _ _ _ _ (rd_own (by exact C1)) (Nat.le_refl _) (rd_own (by exact C2))).mono ?_
  rintro e0 w1 ⟨vw0, Yw0, rfl, Ow0, Lw0, mw0, B0⟩
  clear C1
  clear C2
  replace HB := Blw.next (by exact HB) B0
  clear B0
  have Z1 := hX1.below HB.out
  have Z2 := hX2.below HB.out
  obtain ⟨xw0, cw0, rfl, _, _, Rw0⟩ := rd_of_own Ow0
  clear Ow0
  have HL := Blw.refl w1
  have E1 := (Blw.out (by exact HL)).size
  go_wp2_with fail
  refine (toF_any _ _ _ X1 _ (by exact Z1.below (Blw.out (by exact HL))) h1).mono ?_
  rintro e0 w0 ⟨rfl, O0, B0⟩
  replace HL := Blw.next (by exact HL) B0
  have D1 := O0
  clear O0 B0
  have E2 := (Blw.out (by exact HL)).size
  have Q1_2 := own_lt (by exact D1)
  go_wp2_with fail
  refine (toF_any _ _ _ X2 _ (by exact Z2.below (Blw.out (by exact HL))) h2).mono ?_
  rintro e0 w0 ⟨rfl, O0, B0⟩
  replace D1 := own_below (by exact D1) B0
  replace HL := Blw.next (by exact HL) B0
  have D2 := O0
  clear O0 B0
  have Qg1 := own_lt (by exact D1)
  have Qg2 := own_lt (by exact D2)
  have Eg := (Blw.out (by exact HL)).size
  go_wp2_with fail
  refine (HI.out _ _ _ _ _ (rd_own (by exact D1)) (Nat.le_refl _) (rd_own (by exact D2))).mono ?_
  rintro e0 w2 ⟨vg0, Yg0, rfl, Og0, Lg0, mg0, B0⟩
  replace D1 := own_below (by exact D1) B0
  replace D2 := own_below (by exact D2) B0
  replace HL := Blw.next (by exact HL) B0
  clear B0
  have O_0 := Og0
  obtain ⟨xg0, cg0, rfl, _, _, Rg0⟩ := rd_of_own O_0
  clear O_0
  go_wp2_with fail
  refine (eqF_any _ _ _ _ _ Yg0 Yw0 _ (by exact Rg0) (by exact Rw0.below (Blw.out (by exact HL))) mw0 (fun i hi => (Lg0 i hi).trans (Lw0 i hi).symm)).mono ?_
  rintro e0 w0 ⟨rfl, q, rfl⟩
  go_wp2_with fail
  refine (toF_any _ _ _ X1 _ (by exact Z1.below (Blw.out (by exact HL))) h1).mono ?_
  rintro e0 w0 ⟨rfl, O0, B0⟩
  replace D1 := own_below (by exact D1) B0
  replace D2 := own_below (by exact D2) B0
  replace Og0 := own_below (by exact Og0) B0
  replace HL := Blw.next (by exact HL) B0
  have K1 := O0
  clear O0 B0
  go_wp2_with fail
  refine (eqF_any _ _ _ _ _ X1 X1 _ (by exact rd_own (by exact D1)) (by exact rd_own (by exact K1)) h1 (fun _ _ => rfl)).mono ?_
  rintro e0 w0 ⟨rfl, q, rfl⟩
  clear K1
  go_wp2_with fail
  refine (toF_any _ _ _ X2 _ (by exact Z2.below (Blw.out (by exact HL))) h2).mono ?_
  rintro e0 w0 ⟨rfl, O0, B0⟩
  replace D1 := own_below (by exact D1) B0
  replace D2 := own_below (by exact D2) B0
  replace Og0 := own_below (by exact Og0) B0
  replace HL := Blw.next (by exact HL) B0
  have K2 := O0
  clear O0 B0
  go_wp2_with fail
  refine (eqF_any _ _ _ _ _ X2 X2 _ (by exact rd_own (by exact D2)) (by exact rd_own (by exact K2)) h2 (fun _ _ => rfl)).mono ?_
  rintro e0 w0 ⟨rfl, q, rfl⟩
  clear K2
  go_wp2_with fail
  refine (markX_any _ _ n1 _ X1 _ _ (by exact D1) h1 (by omega) (by omega)).mono ?_
  rintro e0 w0 ⟨rfl, NM⟩
  replace D2 := own_only (by exact D2) (by exact Q1_2) NM
  replace Og0 := own_only (by exact Og0) (by exact Qg1) NM
  replace HL := Blw.only (by exact HL) E1 NM
  clear NM D1
  go_wp2_with fail
  refine (markX_any _ _ n2 _ X2 _ _ (by exact D2) h2 (by omega) (by omega)).mono ?_
  rintro e0 w0 ⟨rfl, NM⟩
  replace Og0 := own_only (by exact Og0) (by exact Qg2) NM
  replace HL := Blw.only (by exact HL) E2 NM
  clear NM D2
  have hk1 : (0 : Int) ≤ 1 + (n1 : Int) + (n2 : Int) := by omega
  replace Rg0 := rd_own' (by exact Og0)
  go_wp2_with fail
  refine (eqF_any _ _ _ _ _ Yg0 Yw0 _ (by exact Rg0) (by exact Rw0.below (Blw.out (by exact HL))) mw0 (fun i hi => (Lg0 i hi).trans (Lw0 i hi).symm)).mono ?_
  rintro e0 w0 ⟨rfl, q, rfl⟩
  clear Rg0
  go_wp2_with fail
  refine (markF_any _ _ m0 Yg0 _ _ (by exact Og0) mg0 (by omega) (by omega)).mono ?_
  rintro e0 w0 ⟨rfl, Ok0, B0⟩
  replace HL := Blw.nextB (by exact HL) (B0.mono Eg)
  clear B0 Og0
  have hm1 : (0 : Int) ≤ 1 + (m0 : Int) := by omega
  go_wp2_with fail
  refine (heldF_any _ _ m0 _ _ (by exact Ok0) mg0 (by omega) (by omega)).mono ?_
  rintro e0 w0 ⟨rfl, rfl⟩
  go_wp2_with fail
  refine (toF_any _ _ _ X1 _ (by exact Z1.below (Blw.out (by exact HL))) h1).mono ?_
  rintro e0 w0 ⟨rfl, O0, B0⟩
  replace Ok0 := own_below (by exact Ok0) B0
  replace HL := Blw.next (by exact HL) B0
  have C1 := O0
  clear O0 B0
  go_wp2_with fail
  refine (toF_any _ _ _ X2 _ (by exact Z2.below (Blw.out (by exact HL))) h2).mono ?_
  rintro e0 w0 ⟨rfl, O0, B0⟩
  replace C1 := own_below (by exact C1) B0
  replace Ok0 := own_below (by exact Ok0) B0
  replace HL := Blw.next (by exact HL) B0
  have C2 := O0
  clear O0 B0
  go_wp2_with fail
  refine (HI.out _ _ _ _ _ (rd_own (by exact C1)) (Nat.le_refl _) (rd_own (by exact C2))).mono ?_
  rintro e0 w3 ⟨vh0, Yh0, rfl, Oh0, Lh0, mh0, B0⟩
  replace Ok0 := own_below (by exact Ok0) B0
  clear C1
  clear C2
  replace HL := Blw.next (by exact HL) B0
  clear B0
  obtain ⟨xh0, ch0, rfl, _, _, Rh0⟩ := rd_of_own Oh0
  clear Oh0
  go_wp2_with fail
  refine (eqF_any _ _ _ _ _ Yh0 Yw0 _ (by exact Rh0) (by exact Rw0.below (Blw.out (by exact HL))) mw0 (fun i hi => (Lh0 i hi).trans (Lw0 i hi).symm)).mono ?_
  rintro e0 w0 ⟨rfl, q, rfl⟩
  clear Rh0
  go_wp2_with fail
  refine (heldF_any _ _ m0 _ _ (by exact Ok0) mg0 (by omega) (by omega)).mono ?_
  rintro e0 w0 ⟨rfl, rfl⟩
  go_wp2
  go_ret
  exact ⟨rfl, (Blw.out (by exact HB)).trans ((Blw.out (by exact HL)).mono (Blw.out (by exact HB)).size)⟩
set_option maxRecDepth 100000 in
set_option maxHeartbeats 1600000 in
theorem lawLevelSteps_any (W : World) (a0 : Int) (_wf0 : (Lit.int .i64 a0).wf = true) (x1 : Option Addr) (n1 c1 : Nat) (X1 : Nat → Nat) (hX1 : Rd W x1 n1 X1) (x2 : Option Addr) (n2 c2 : Nat) (X2 : Nat → Nat) (hX2 : Rd W x2 n2 X2) (a3 : Nat) (_wf3 : (Lit.float .f32 a3).wf = true) (a4 : Int) (_wf4 : (Lit.int .i64 a4).wf = true) :
    Calls Try.prog 13 #[.int .i64 a0, .slice x1 n1 c1, .slice x2 n2 c2, .float .f32 a3, .int .i64 a4] W fun e w' => e = .returned (.bool true) ∧ Below W.heap.size W w' := by
  by_cases h1 : n1 ≤ 1048576
  · skip
    by_cases h2 : n2 ≤ 1048576
    · skip
      obtain ⟨R0, m0, r1, hs, hi⟩ := bothLevelSteps a0 _wf0 n1 X1 h1 n2 X2 h2 a3 _wf3 a4 _wf4
      exact lawLevelSteps_in W a0 _wf0 x1 n1 c1 X1 hX1 x2 n2 c2 X2 hX2 a3 _wf3 a4 _wf4 h1 h2 R0 m0 r1 (Lib.hid hs) (Lib.hid hi)
    · have h' : (1048576 : Int) < (n2 : Int) := by omega
      go_enter Try.func13, Try.ntmps13
      go_wp2
      go_ret
      exact ⟨rfl, (Blw.refl W).out⟩
  · have h' : (1048576 : Int) < (n1 : Int) := by omega
    go_enter Try.func13, Try.ntmps13
    go_wp2
    go_ret
    exact ⟨rfl, (Blw.refl W).out⟩
end Go.Proofs.Ytmpcalpapkedhaa
