
/- For all levels and rates the program tells the shares that stay just where the model does, and the same; its answer owns its memory and the list is not changed: for all arguments. -/
import Derived.Test.YtogmcinaoemnpaaLbi
import Derived.Test.YtogmcinaoemnpaaLbs
import Derived.Test.YtogmcinaoemnpaaLiC
import Derived.Test.YtogmcinaoemnpaaLaw
namespace Go.Proofs.Ytogmcinaoemnpaa
set_option linter.all false
open Go Go.ChangeShapes Go.WideShapes Go.ChangeAt Go.RowKit

set_option maxRecDepth 100000 in
set_option maxHeartbeats 1600000 in
theorem implLb_no (a : Int) (ra : Option Addr) (L rc : Nat) (A : Nat → Nat) (w : World) (hA : Rd w ra L A) (hLm : L ≤ 1048576) (R : Nat → Nat) (h1 : lvOk a L A = false) :
    Calls Try.prog 12 #[.int .i64 a, .slice ra L rc] w (OutRet R 0 false w) := by
  have HF := Lib.hid (flowOf_any a ra L rc A w hA hLm false (Lib.hid h1.symm))
  clear h1
  go_enter Try.func12, Try.ntmps12
  go_wp2_with fail
  refine HF.out.mono ?_
  rintro e w1 (⟨_, rfl, b1⟩ | ⟨h, rfl, b1⟩)
  · go_wp2
    go_ret2
    exact OutRet.no (b1.trans ((Below.refl _ _).alloc b1.size _))
  · cases h
set_option maxRecDepth 100000 in
set_option maxHeartbeats 1600000 in
theorem specLb_no (a : Int) (ra : Option Addr) (L rc : Nat) (A : Nat → Nat) (w : World) (hA : Rd w ra L A) (hLm : L ≤ 1048576) (R : Nat → Nat) (h1 : lvOk a L A = false) :
    Calls Try.prog 10 #[.int .i64 a, .slice ra L rc] w (OutRet R 0 false w) := by
  have HR := Lib.hid (specRates_any a ra L rc A w hA hLm false (Lib.hid h1.symm))
  clear h1
  go_enter Try.func10, Try.ntmps10
  go_wp2_with (go_at_call 45; refine HR.out.mono ?_; rintro e w' ⟨rfl, q, rfl⟩)
  go_ret2
  exact OutRet.no (Below.drewN (Below.refl _ _) _)
/-- What is told of LevelBalance. -/
def RetLevelBalance (R0 : Nat → Nat) (m0 : Nat) (r1 : Bool) (w : World) (e : Ending) (w' : World) : Prop := ∃ (v0 : Value) (Y0 : Nat → Nat), e = .returned (.tuple #[v0, .bool r1]) ∧ w'.ownsRow w.heap.size 32 1 v0 m0 (rowOf Y0 m0) ∧ Like Y0 R0 m0 ∧ m0 ≤ 1048576 ∧ Below w.heap.size w w'
theorem bothLevelBalance (a0 : Int) (_ : (Lit.int .i64 a0).wf = true) (n1 : Nat) (X1 : Nat → Nat) (h1 : n1 ≤ 1048576) (hw : ∀ j, j < n1 → (Lit.float .f32 (X1 j)).wf = true) :
    ∃ (R : Nat → Nat) (m : Nat) (ok : Bool), (∀ (x1 : Option Addr) (c1 : Nat) (w : World), Rd w x1 n1 X1 → n1 ≤ c1 → Calls Try.prog 10 #[.int .i64 a0, .slice x1 n1 c1] w (RetLevelBalance R m ok w)) ∧
      ∀ (x1 : Option Addr) (c1 : Nat) (w : World), Rd w x1 n1 X1 → n1 ≤ c1 → Calls Try.prog 12 #[.int .i64 a0, .slice x1 n1 c1] w (RetLevelBalance R m ok w) := by
  obtain ⟨A, hA⟩ : ∃ A : Nat → Nat, A = fun k => if k < n1 then X1 k else 0 := ⟨_, rfl⟩
  have hAw : ∀ k, A k < 4294967296 := fun k => by
    rw [hA]
    show (if k < n1 then X1 k else 0) < _
    split
    · rename_i h
      have := hw k h
      simpa [Lit.wf] using this
    · omega
  have hRd : ∀ {w : World} {x : Option Addr}, Rd w x n1 X1 → Rd w x n1 A := fun {w x} h => by
    obtain ⟨xb, xo, e1, e2⟩ := h
    refine ⟨xb, xo, e1, fun i hi => ?_⟩
    rw [hA]
    show _ = some (Value.float .f32 (if i < n1 then X1 i else 0))
    rw [if_pos hi]
    exact e2 i hi
  have conv : ∀ {R : Nat → Nat} {p : Nat} {ok : Bool} {w : World} {e : Ending} {w' : World}, p ≤ 1048576 → OutRet R p ok w e w' → RetLevelBalance R p ok w e w' := fun hpm ⟨v, Z, he, ho, hL, hB⟩ => ⟨v, Z, he, ho, hL, hpm, hB⟩
  cases hk : lvOk a0 n1 A
  · exact ⟨fun _ => 0, 0, false, fun x1 c1 w hX _ => (specLb_no a0 x1 n1 c1 A w (hRd hX) h1 _ hk).mono fun e w' h => conv (by omega) h,
      fun x1 c1 w hX _ => (implLb_no a0 x1 n1 c1 A w (hRd hX) h1 _ hk).mono fun e w' h => conv (by omega) h⟩
  · obtain ⟨N, rfl, hN1, hN6, hL, hg, _⟩ := lvOk_at hk
    have hp : (if lbG N A = true then N else 0) ≤ 1048576 := by split <;> omega
    exact ⟨_, _, _, fun x1 c1 w hX _ => (specLb_yes N x1 n1 c1 A w (hRd hX) hk h1 hL hN6 hN1 hg hAw _ _ (Lib.hid rfl) (Lib.hid rfl)).mono fun e w' h => conv hp h,
      fun x1 c1 w hX hc => (implLb_yes N x1 n1 c1 A w (hRd hX) hk hc h1 hL hN6 hN1 hAw _ _ (Lib.hid rfl) (Lib.hid rfl)).mono fun e w' h => conv hp h⟩
set_option maxRecDepth 100000 in
set_option maxHeartbeats 6400000 in
theorem lawLevelBalance_in (W : World) (a0 : Int) (_wf0 : (Lit.int .i64 a0).wf = true) (x1 : Option Addr) (n1 c1 : Nat) (X1 : Nat → Nat) (hX1 : Rd W x1 n1 X1) (_hw1 : ∀ j, j < n1 → (Lit.float .f32 (X1 j)).wf = true) (h1 : n1 ≤ 1048576) (R0 : Nat → Nat) (m0 : Nat) (r1 : Bool) (HS : Hid (∀ (x1 : Option Addr) (c1 : Nat) (w : World), Rd w x1 n1 X1 → n1 ≤ c1 → Calls Try.prog 10 #[.int .i64 a0, .slice x1 n1 c1] w (RetLevelBalance R0 m0 r1 w))) (HI : Hid (∀ (x1 : Option Addr) (c1 : Nat) (w : World), Rd w x1 n1 X1 → n1 ≤ c1 → Calls Try.prog 12 #[.int .i64 a0, .slice x1 n1 c1] w (RetLevelBalance R0 m0 r1 w))) :
    Calls Try.prog 3 #[.int .i64 a0, .slice x1 n1 c1] W fun e w' => e = .returned (.bool true) ∧ Below W.heap.size W w' := by
  have hcv := fun (R : Nat) (s t : Nat) => show canon .f64 (pick .f64 (fconv .f32 (pick .f32 R s) .f64) t) = canon .f64 (fconv .f32 R .f64) by rw [canon_pick, fconv_pick]
  have hcw := fun (R : Nat) (s t : Nat) => show canon .f64 (pick .f64 R s) = canon .f64 (pick .f64 R t) by rw [canon_pick, canon_pick]
  have HCV := Lib.hid hcv
  have HCW := Lib.hid hcw
  clear hcv hcw
  have hnb1 : (r1 != r1) = false := by simp
  have HB := Blw.refl W
  go_enter Try.func3, Try.ntmps3
  go_wp2_with fail
  refine (toF_any _ _ _ X1 _ (by exact hX1.below (Blw.out (by exact HB))) h1).mono ?_
  rintro e0 w0 ⟨rfl, O0, B0⟩
  replace HB := Blw.next (by exact HB) B0
  have C1 := O0
  clear O0 B0
  go_wp2_with fail
  refine (HS.out _ _ _ (rd_own (by exact C1)) (Nat.le_refl _)).mono ?_
  rintro e0 w1 ⟨vw0, Yw0, rfl, Ow0, Lw0, mw0, B0⟩
  clear C1
  replace HB := Blw.next (by exact HB) B0
  clear B0
  have Z1 := hX1.below HB.out
  obtain ⟨xw0, cw0, rfl, _, _, Rw0⟩ := rd_of_own Ow0
  clear Ow0
  have HL := Blw.refl w1
  have E1 := (Blw.out (by exact HL)).size
  go_wp2_with fail
  refine (toF_any _ _ _ X1 _ (by exact Z1.below (Blw.out (by exact HL))) h1).mono ?_
  rintro e0 w0 ⟨rfl, O0, B0⟩
  replace HL := Blw.next (by exact HL) B0
  have D1 := O0
  clear O0 B0
  have Qg1 := own_lt (by exact D1)
  have Eg := (Blw.out (by exact HL)).size
  go_wp2_with fail
  refine (HI.out _ _ _ (rd_own (by exact D1)) (Nat.le_refl _)).mono ?_
  rintro e0 w2 ⟨vg0, Yg0, rfl, Og0, Lg0, mg0, B0⟩
  replace D1 := own_below (by exact D1) B0
  replace HL := Blw.next (by exact HL) B0
  clear B0
  have O_0 := Og0
  obtain ⟨xg0, cg0, rfl, _, _, Rg0⟩ := rd_of_own O_0
  clear O_0
  go_wp2_with fail
  refine (eqF_any _ _ _ _ _ Yg0 Yw0 _ (by exact Rg0) (by exact Rw0.below (Blw.out (by exact HL))) mw0 (fun i hi => (Lg0 i hi).trans (Lw0 i hi).symm)).mono ?_
  rintro e0 w0 ⟨rfl, q, rfl⟩
  go_wp2_with fail
  refine (toF_any _ _ _ X1 _ (by exact Z1.below (Blw.out (by exact HL))) h1).mono ?_
  rintro e0 w0 ⟨rfl, O0, B0⟩
  replace D1 := own_below (by exact D1) B0
  replace Og0 := own_below (by exact Og0) B0
  replace HL := Blw.next (by exact HL) B0
  have K1 := O0
  clear O0 B0
  go_wp2_with fail
  refine (eqF_any _ _ _ _ _ X1 X1 _ (by exact rd_own (by exact D1)) (by exact rd_own (by exact K1)) h1 (fun _ _ => rfl)).mono ?_
  rintro e0 w0 ⟨rfl, q, rfl⟩
  clear K1
  go_wp2_with fail
  refine (markX_any _ _ n1 _ X1 _ _ (by exact D1) h1 (by omega) (by omega)).mono ?_
  rintro e0 w0 ⟨rfl, NM⟩
  replace Og0 := own_only (by exact Og0) (by exact Qg1) NM
  replace HL := Blw.only (by exact HL) E1 NM
  clear NM D1
  have hk1 : (0 : Int) ≤ 1 + (n1 : Int) := by omega
  replace Rg0 := rd_own' (by exact Og0)
  go_wp2_with fail
  refine (eqF_any _ _ _ _ _ Yg0 Yw0 _ (by exact Rg0) (by exact Rw0.below (Blw.out (by exact HL))) mw0 (fun i hi => (Lg0 i hi).trans (Lw0 i hi).symm)).mono ?_
  rintro e0 w0 ⟨rfl, q, rfl⟩
  clear Rg0
  go_wp2_with fail
  refine (markF_any _ _ m0 Yg0 _ _ (by exact Og0) mg0 (by omega) (by omega)).mono ?_
  rintro e0 w0 ⟨rfl, Ok0, B0⟩
  replace HL := Blw.nextB (by exact HL) (B0.mono Eg)
  clear B0 Og0
  have hm1 : (0 : Int) ≤ 1 + (m0 : Int) := by omega
  go_wp2_with fail
  refine (heldF_any _ _ m0 _ _ (by exact Ok0) mg0 (by omega) (by omega)).mono ?_
  rintro e0 w0 ⟨rfl, rfl⟩
  go_wp2_with fail
  refine (toF_any _ _ _ X1 _ (by exact Z1.below (Blw.out (by exact HL))) h1).mono ?_
  rintro e0 w0 ⟨rfl, O0, B0⟩
  replace Ok0 := own_below (by exact Ok0) B0
  replace HL := Blw.next (by exact HL) B0
  have C1 := O0
  clear O0 B0
  go_wp2_with fail
  refine (HI.out _ _ _ (rd_own (by exact C1)) (Nat.le_refl _)).mono ?_
  rintro e0 w3 ⟨vh0, Yh0, rfl, Oh0, Lh0, mh0, B0⟩
  replace Ok0 := own_below (by exact Ok0) B0
  clear C1
  replace HL := Blw.next (by exact HL) B0
  clear B0
  obtain ⟨xh0, ch0, rfl, _, _, Rh0⟩ := rd_of_own Oh0
  clear Oh0
  go_wp2_with fail
  refine (eqF_any _ _ _ _ _ Yh0 Yw0 _ (by exact Rh0) (by exact Rw0.below (Blw.out (by exact HL))) mw0 (fun i hi => (Lh0 i hi).trans (Lw0 i hi).symm)).mono ?_
  rintro e0 w0 ⟨rfl, q, rfl⟩
  clear Rh0
  go_wp2_with fail
  refine (heldF_any _ _ m0 _ _ (by exact Ok0) mg0 (by omega) (by omega)).mono ?_
  rintro e0 w0 ⟨rfl, rfl⟩
  go_wp2
  go_ret
  exact ⟨rfl, (Blw.out (by exact HB)).trans ((Blw.out (by exact HL)).mono (Blw.out (by exact HB)).size)⟩
set_option maxRecDepth 100000 in
set_option maxHeartbeats 1600000 in
theorem lawLevelBalance_any (W : World) (a0 : Int) (_wf0 : (Lit.int .i64 a0).wf = true) (x1 : Option Addr) (n1 c1 : Nat) (X1 : Nat → Nat) (hX1 : Rd W x1 n1 X1) (_hw1 : ∀ j, j < n1 → (Lit.float .f32 (X1 j)).wf = true) :
    Calls Try.prog 3 #[.int .i64 a0, .slice x1 n1 c1] W fun e w' => e = .returned (.bool true) ∧ Below W.heap.size W w' := by
  by_cases h1 : n1 ≤ 1048576
  · skip
    obtain ⟨R0, m0, r1, hs, hi⟩ := bothLevelBalance a0 _wf0 n1 X1 h1 _hw1
    exact lawLevelBalance_in W a0 _wf0 x1 n1 c1 X1 hX1 _hw1 h1 R0 m0 r1 (Lib.hid hs) (Lib.hid hi)
  · have h' : (1048576 : Int) < (n1 : Int) := by omega
    go_enter Try.func3, Try.ntmps3
    go_wp2
    go_ret
    exact ⟨rfl, (Blw.refl W).out⟩
end Go.Proofs.Ytogmcinaoemnpaa
