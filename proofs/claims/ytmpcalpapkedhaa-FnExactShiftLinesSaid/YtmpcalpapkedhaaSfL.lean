
/- Of any lines the program makes the same moved and scaled ones as the model does; its answer owns its memory and the lines are not changed: for all arguments. -/
import Derived.Test.YtmpcalpapkedhaaSfi
import Derived.Test.YtmpcalpapkedhaaLmk
import Derived.Test.YtmpcalpapkedhaaLiC
namespace Go.Proofs.Ytmpcalpapkedhaa
open Go Go.ChangeShapes Go.WideShapes Go.ChangeAt Go.RowKit
set_option linter.all false

/-- What is told of ShiftLines. -/
def RetShiftLines (R0 : Nat → Ln) (m0 : Nat) (r1 : Bool) (w : World) (e : Ending) (w' : World) : Prop := ∃ (v0 : Value) (Y0 : Nat → Ln), e = .returned (.tuple #[v0, .bool r1]) ∧ w'.ownsRow w.heap.size 120 4 v0 m0 (rowN Y0 m0) ∧ LikeN Y0 R0 m0 ∧ m0 ≤ 1048576 ∧ Below w.heap.size w w'
theorem RetNL.sh {R : Nat → Ln} {m : Nat} {ok : Bool} {w w' : World} {e : Ending} (hm : m ≤ 1048576) (h : RetNL m R ok w e w') : RetShiftLines R m ok w e w' := by
  obtain ⟨v, A, h1, h2, h3, h4⟩ := h
  exact ⟨v, A, h1, h2, h3, hm, h4⟩
theorem bothShiftLines (n0 : Nat) (X0 : Nat → Ln) (h0 : n0 ≤ 1048576) (_ : ∀ j, j < n0 → (X0 j).wf) (a1 : Nat) (_ : (Lit.float .f32 a1).wf = true) (a2 : Nat) (_ : (Lit.float .f32 a2).wf = true) : ∃ (R : Nat → Ln) (m : Nat) (ok : Bool),
    (∀ (x0 : Addr) (c0 : Nat) (w : World), RdN w (some x0) n0 X0 → Calls Try.prog 34 #[.slice (some x0) n0 c0, .float .f32 a1, .float .f32 a2] w (RetShiftLines R m ok w)) ∧
    ∀ (x0 : Addr) (c0 : Nat) (w : World), RdN w (some x0) n0 X0 → Calls Try.prog 36 #[.slice (some x0) n0 c0, .float .f32 a1, .float .f32 a2] w (RetShiftLines R m ok w) := by
  have hp : (if shOk a1 a2 X0 n0 = true then n0 else 0) ≤ 1048576 := by split <;> omega
  exact ⟨_, _, _, fun x0 c0 w hX => (specSf_any x0 n0 c0 a1 a2 X0 w hX h0 _ _ (Lib.hid rfl) (Lib.hid rfl)).mono fun e w' h => h.sh hp,
    fun x0 c0 w hX => (implSf_any x0 n0 c0 a1 a2 X0 w hX h0 _ _ (Lib.hid rfl) (Lib.hid rfl)).mono fun e w' h => h.sh hp⟩
set_option maxRecDepth 100000 in
set_option maxHeartbeats 6400000 in
theorem lawShiftLines_in (W : World) (x0 : Option Addr) (n0 c0 : Nat) (X0 : Nat → Ln) (hX0 : RdN W x0 n0 X0) (_hm0 : n0 ≤ maxLen) (_hw0 : ∀ j, j < n0 → (X0 j).wf) (a1 : Nat) (_wf1 : (Lit.float .f32 a1).wf = true) (a2 : Nat) (_wf2 : (Lit.float .f32 a2).wf = true) (h0 : n0 ≤ 1048576) (R0 : Nat → Ln) (m0 : Nat) (r1 : Bool) (HS : Hid (∀ (x0 : Addr) (c0 : Nat) (w : World), RdN w (some x0) n0 X0 → Calls Try.prog 34 #[.slice (some x0) n0 c0, .float .f32 a1, .float .f32 a2] w (RetShiftLines R0 m0 r1 w))) (HI : Hid (∀ (x0 : Addr) (c0 : Nat) (w : World), RdN w (some x0) n0 X0 → Calls Try.prog 36 #[.slice (some x0) n0 c0, .float .f32 a1, .float .f32 a2] w (RetShiftLines R0 m0 r1 w))) :
    Calls Try.prog 6 #[.slice x0 n0 c0, .float .f32 a1, .float .f32 a2] W fun e w' => e = .returned (.bool true) ∧ Below W.heap.size W w' := by
  have hcv := fun (R : Nat) (s t : Nat) => show canon .f64 (pick .f64 (fconv .f32 (pick .f32 R s) .f64) t) = canon .f64 (fconv .f32 R .f64) by rw [canon_pick, fconv_pick]
  have hcw := fun (R : Nat) (s t : Nat) => show canon .f64 (pick .f64 R s) = canon .f64 (pick .f64 R t) by rw [canon_pick, canon_pick]
  have HCV := Lib.hid hcv
  have HCW := Lib.hid hcw
  clear hcv hcw
  have hnb1 : (r1 != r1) = false := by simp
  have HB := Blw.refl W
  have hz0 : (0 : Int) ≤ 1048576 - (n0 : Int) := by omega
  go_enter Try.func6, Try.ntmps6
  go_wp2_with (go_at_call 33; go_in)
  refine (toN_any _ _ _ X0 _ (by exact hX0.below (Blw.out (by exact HB))) h0).mono ?_
  rintro e0 w0 ⟨rfl, O0, B0⟩
  replace HB := Blw.next (by exact HB) B0
  have C0 := O0
  clear O0 B0
  go_wp2_with fail
  refine (HS.out _ _ _ (rdN_own (by exact C0))).mono ?_
  rintro e0 w1 ⟨vw0, Yw0, rfl, Ow0, Lw0, mw0, B0⟩
  clear C0
  replace HB := Blw.next (by exact HB) B0
  clear B0
  have Z0 := hX0.below HB.out
  obtain ⟨xw0, cw0, rfl, _, _, Rw0⟩ := rdN_of_own Ow0
  clear Ow0
  have HL := Blw.refl w1
  have E0 := (Blw.out (by exact HL)).size
  go_wp2_with fail
  refine (toN_any _ _ _ X0 _ (by exact Z0.below (Blw.out (by exact HL))) h0).mono ?_
  rintro e0 w0 ⟨rfl, O0, B0⟩
  replace HL := Blw.next (by exact HL) B0
  have D0 := O0
  clear O0 B0
  have Qg0 := ownS_lt (by exact D0)
  have Eg := (Blw.out (by exact HL)).size
  go_wp2_with fail
  refine (HI.out _ _ _ (rdN_own (by exact D0))).mono ?_
  rintro e0 w2 ⟨vg0, Yg0, rfl, Og0, Lg0, mg0, B0⟩
  replace D0 := ownS_below (by exact D0) B0
  replace HL := Blw.next (by exact HL) B0
  clear B0
  have O_0 := Og0
  obtain ⟨xg0, cg0, rfl, _, _, Rg0⟩ := rdN_of_own O_0
  clear O_0
  go_wp2_with fail
  refine (eqN_any _ _ _ _ _ Yg0 Yw0 _ (by exact Rg0) (by exact Rw0.below (Blw.out (by exact HL))) mw0 (Lg0.trans_symm Lw0)).mono ?_
  rintro e0 w0 ⟨rfl, B0⟩
  replace D0 := ownS_below (by exact D0) B0
  replace Og0 := ownS_below (by exact Og0) B0
  replace HL := Blw.next (by exact HL) B0
  clear B0
  go_wp2_with fail
  refine (toN_any _ _ _ X0 _ (by exact Z0.below (Blw.out (by exact HL))) h0).mono ?_
  rintro e0 w0 ⟨rfl, O0, B0⟩
  replace D0 := ownS_below (by exact D0) B0
  replace Og0 := ownS_below (by exact Og0) B0
  replace HL := Blw.next (by exact HL) B0
  have K0 := O0
  clear O0 B0
  go_wp2_with fail
  refine (eqN_any _ _ _ _ _ X0 X0 _ (by exact rdN_own (by exact D0)) (by exact rdN_own (by exact K0)) h0 (LikeN.refl _ _)).mono ?_
  rintro e0 w0 ⟨rfl, B0⟩
  replace D0 := ownS_below (by exact D0) B0
  replace Og0 := ownS_below (by exact Og0) B0
  replace HL := Blw.next (by exact HL) B0
  clear B0
  clear K0
  go_wp2_with fail
  refine (markN_any _ n0 _ X0 _ _ (by exact D0) h0 (by omega) (by omega)).mono ?_
  rintro e0 w0 ⟨rfl, NM⟩
  replace Og0 := own_onlyS (by exact Og0) (by exact Qg0) NM
  replace HL := Blw.only (by exact HL) E0 NM
  clear NM D0
  have hk1 : (0 : Int) ≤ 1 + 4 * (n0 : Int) := by omega
  replace Rg0 := rdN_own_' (by exact Og0)
  go_wp2_with fail
  refine (eqN_any _ _ _ _ _ Yg0 Yw0 _ (by exact Rg0) (by exact Rw0.below (Blw.out (by exact HL))) mw0 (Lg0.trans_symm Lw0)).mono ?_
  rintro e0 w0 ⟨rfl, B0⟩
  replace Og0 := ownS_below (by exact Og0) B0
  replace HL := Blw.next (by exact HL) B0
  clear B0
  clear Rg0
  go_wp2_with fail
  refine (markNB_any _ _ m0 Yg0 _ _ (by exact Og0) mg0 (by omega) (by omega)).mono ?_
  rintro e0 w0 ⟨rfl, Ok0, B0⟩
  replace HL := Blw.nextB (by exact HL) (B0.mono Eg)
  clear B0 Og0
  have hm1 : (0 : Int) ≤ 1 + 4 * (m0 : Int) := by omega
  go_wp2_with fail
  refine (heldN_any _ _ m0 _ _ (by exact Ok0) mg0 (by omega) (by omega)).mono ?_
  rintro e0 w0 ⟨rfl, rfl⟩
  go_wp2_with fail
  refine (toN_any _ _ _ X0 _ (by exact Z0.below (Blw.out (by exact HL))) h0).mono ?_
  rintro e0 w0 ⟨rfl, O0, B0⟩
  replace Ok0 := ownS_below (by exact Ok0) B0
  replace HL := Blw.next (by exact HL) B0
  have C0 := O0
  clear O0 B0
  go_wp2_with fail
  refine (HI.out _ _ _ (rdN_own (by exact C0))).mono ?_
  rintro e0 w3 ⟨vh0, Yh0, rfl, Oh0, Lh0, mh0, B0⟩
  replace Ok0 := ownS_below (by exact Ok0) B0
  clear C0
  replace HL := Blw.next (by exact HL) B0
  clear B0
  obtain ⟨xh0, ch0, rfl, _, _, Rh0⟩ := rdN_of_own Oh0
  clear Oh0
  go_wp2_with fail
  refine (eqN_any _ _ _ _ _ Yh0 Yw0 _ (by exact Rh0) (by exact Rw0.below (Blw.out (by exact HL))) mw0 (Lh0.trans_symm Lw0)).mono ?_
  rintro e0 w0 ⟨rfl, B0⟩
  replace Ok0 := ownS_below (by exact Ok0) B0
  replace HL := Blw.next (by exact HL) B0
  clear B0
  clear Rh0
  go_wp2_with fail
  refine (heldN_any _ _ m0 _ _ (by exact Ok0) mg0 (by omega) (by omega)).mono ?_
  rintro e0 w0 ⟨rfl, rfl⟩
  go_wp2
  go_ret
  exact ⟨rfl, (Blw.out (by exact HB)).trans ((Blw.out (by exact HL)).mono (Blw.out (by exact HB)).size)⟩
set_option maxRecDepth 100000 in
set_option maxHeartbeats 1600000 in
theorem lawShiftLines_any (W : World) (x0 : Option Addr) (n0 c0 : Nat) (X0 : Nat → Ln) (hX0 : RdN W x0 n0 X0) (_hm0 : n0 ≤ maxLen) (_hw0 : ∀ j, j < n0 → (X0 j).wf) (a1 : Nat) (_wf1 : (Lit.float .f32 a1).wf = true) (a2 : Nat) (_wf2 : (Lit.float .f32 a2).wf = true) :
    Calls Try.prog 6 #[.slice x0 n0 c0, .float .f32 a1, .float .f32 a2] W fun e w' => e = .returned (.bool true) ∧ Below W.heap.size W w' := by
  by_cases h0 : n0 ≤ 1048576
  · skip
    obtain ⟨R0, m0, r1, hs, hi⟩ := bothShiftLines n0 X0 h0 _hw0 a1 _wf1 a2 _wf2
    exact lawShiftLines_in W x0 n0 c0 X0 hX0 _hm0 _hw0 a1 _wf1 a2 _wf2 h0 R0 m0 r1 (Lib.hid hs) (Lib.hid hi)
  · have h' : (1048576 : Int) - (n0 : Int) < 0 := by omega
    unfold maxLen at _hm0
    go_enter Try.func6, Try.ntmps6
    go_wp2_with (go_at_call 33; go_in)
    go_ret
    exact ⟨rfl, (Blw.refl W).out⟩
end Go.Proofs.Ytmpcalpapkedhaa
