
/- Of any scan the program tells the same lines as the model does; its answer owns its memory and the scan is not changed: for all arguments. -/
import Derived.Test.YtmpcalpapkedhaaSns
import Derived.Test.YtmpcalpapkedhaaSni
import Derived.Test.YtmpcalpapkedhaaLiC
namespace Go.Proofs.Ytmpcalpapkedhaa
open Go Go.ChangeShapes Go.WideShapes Go.ChangeAt Go.RowKit
set_option linter.all false

/-- What is told of ScanLines. -/
def RetScanLines (R0 I0 : Nat → Nat) (m0 : Nat) (r1 : Bool) (w : World) (e : Ending) (w' : World) : Prop := ∃ (v0 : Value) (Y0 V0 : Nat → Nat), e = .returned (.tuple #[v0, .bool r1]) ∧ w'.ownsRow w.heap.size 98 1 v0 m0 (rowC Y0 V0 m0) ∧ Like Y0 R0 m0 ∧ Like V0 I0 m0 ∧ m0 ≤ 1048576 ∧ Below w.heap.size w w'
theorem RetU.sc {R I : Nat → Nat} {m : Nat} {ok : Bool} {w w' : World} {e : Ending} (hm : m ≤ 1048576) (h : RetU m R I ok w e w') : RetScanLines R I m ok w e w' := by
  obtain ⟨v, A, B, h1, h2, h3, h4, h5⟩ := h
  exact ⟨v, A, B, h1, h2, h3, h4, hm, h5⟩
theorem bothScanLines (n0 : Nat) (X0 : Nat → Nat) (h0 : n0 ≤ 1048576) : ∃ (R I : Nat → Nat) (m : Nat) (ok : Bool),
    (∀ (x0 : Option Addr) (c0 : Nat) (w : World), Rd w x0 n0 X0 → Calls Try.prog 21 #[.slice x0 n0 c0] w (RetScanLines R I m ok w)) ∧
    ∀ (x0 : Option Addr) (c0 : Nat) (w : World), Rd w x0 n0 X0 → Calls Try.prog 23 #[.slice x0 n0 c0] w (RetScanLines R I m ok w) := by
  have hp : (if (binB X0 n0 2 && finC (snU X0 n0) (snV X0 n0) (n0 / 2 + 1)) = true then n0 / 2 + 1 else 0) ≤ 1048576 := by
    split
    · rename_i h
      cases hb : binB X0 n0 2
      · rw [hb] at h; cases h
      · obtain ⟨_, _, _⟩ := binB_at hb; omega
    · omega
  exact ⟨_, _, _, _, fun x0 c0 w hX => (specSn_any x0 n0 c0 X0 w hX h0 _ _ (Lib.hid rfl) (Lib.hid rfl)).mono fun e w' h => h.sc hp,
    fun x0 c0 w hX => (implSn_any x0 n0 c0 X0 w hX h0 _ _ (Lib.hid rfl) (Lib.hid rfl)).mono fun e w' h => h.sc hp⟩
set_option maxRecDepth 100000 in
set_option maxHeartbeats 6400000 in
theorem lawScanLines_in (W : World) (x0 : Option Addr) (n0 c0 : Nat) (X0 : Nat → Nat) (hX0 : Rd W x0 n0 X0) (h0 : n0 ≤ 1048576) (R0 I0 : Nat → Nat) (m0 : Nat) (r1 : Bool) (HS : Hid (∀ (x0 : Option Addr) (c0 : Nat) (w : World), Rd w x0 n0 X0 → Calls Try.prog 21 #[.slice x0 n0 c0] w (RetScanLines R0 I0 m0 r1 w))) (HI : Hid (∀ (x0 : Option Addr) (c0 : Nat) (w : World), Rd w x0 n0 X0 → Calls Try.prog 23 #[.slice x0 n0 c0] w (RetScanLines R0 I0 m0 r1 w))) :
    Calls Try.prog 4 #[.slice x0 n0 c0] W fun e w' => e = .returned (.bool true) ∧ Below W.heap.size W w' := by
  have hcv := fun (R : Nat) (s t : Nat) => show canon .f64 (pick .f64 (fconv .f32 (pick .f32 R s) .f64) t) = canon .f64 (fconv .f32 R .f64) by rw [canon_pick, fconv_pick]
  have hcw := fun (R : Nat) (s t : Nat) => show canon .f64 (pick .f64 R s) = canon .f64 (pick .f64 R t) by rw [canon_pick, canon_pick]
  have HCV := Lib.hid hcv
  have HCW := Lib.hid hcw
  clear hcv hcw
  have hnb1 : (r1 != r1) = false := by simp
  have HB := Blw.refl W
  go_enter Try.func4, Try.ntmps4
  go_wp2_with fail
  refine (toF_any _ _ _ X0 _ (by exact hX0.below (Blw.out (by exact HB))) h0).mono ?_
  rintro e0 w0 ⟨rfl, O0, B0⟩
  replace HB := Blw.next (by exact HB) B0
  have C0 := O0
  clear O0 B0
  go_wp2_with fail
  refine (HS.out _ _ _ (rd_own (by exact C0))).mono ?_
  rintro e0 w1 ⟨vw0, Yw0, Vw0, rfl, Ow0, Lw0, Mw0, mw0, B0⟩
  clear C0
  replace HB := Blw.next (by exact HB) B0
  clear B0
  have Z0 := hX0.below HB.out
  obtain ⟨xw0, cw0, rfl, _, _, Rw0⟩ := rdC_of_own Ow0
  clear Ow0
  have HL := Blw.refl w1
  have E0 := (Blw.out (by exact HL)).size
  go_wp2_with fail
  refine (toF_any _ _ _ X0 _ (by exact Z0.below (Blw.out (by exact HL))) h0).mono ?_
  rintro e0 w0 ⟨rfl, O0, B0⟩
  replace HL := Blw.next (by exact HL) B0
  have D0 := O0
  clear O0 B0
  have Qg0 := own_lt (by exact D0)
  have Eg := (Blw.out (by exact HL)).size
  go_wp2_with fail
  refine (HI.out _ _ _ (rd_own (by exact D0))).mono ?_
  rintro e0 w2 ⟨vg0, Yg0, Vg0, rfl, Og0, Lg0, Mg0, mg0, B0⟩
  replace D0 := own_below (by exact D0) B0
  replace HL := Blw.next (by exact HL) B0
  clear B0
  have O_0 := Og0
  obtain ⟨xg0, cg0, rfl, _, _, Rg0⟩ := rdC_of_own O_0
  clear O_0
  go_wp2_with fail
  refine (eqC_any _ _ _ _ _ Yg0 Vg0 Yw0 Vw0 _ (by exact Rg0) (by exact Rw0.below (Blw.out (by exact HL))) mw0 (fun i hi => (Lg0 i hi).trans (Lw0 i hi).symm) (fun i hi => (Mg0 i hi).trans (Mw0 i hi).symm)).mono ?_
  rintro e0 w0 ⟨rfl, q, rfl⟩
  go_wp2_with fail
  refine (toF_any _ _ _ X0 _ (by exact Z0.below (Blw.out (by exact HL))) h0).mono ?_
  rintro e0 w0 ⟨rfl, O0, B0⟩
  replace D0 := own_below (by exact D0) B0
  replace Og0 := own_below (by exact Og0) B0
  replace HL := Blw.next (by exact HL) B0
  have K0 := O0
  clear O0 B0
  go_wp2_with fail
  refine (eqF_any _ _ _ _ _ X0 X0 _ (by exact rd_own (by exact D0)) (by exact rd_own (by exact K0)) h0 (fun _ _ => rfl)).mono ?_
  rintro e0 w0 ⟨rfl, q, rfl⟩
  clear K0
  go_wp2_with fail
  refine (markX_any _ _ n0 _ X0 _ _ (by exact D0) h0 (by omega) (by omega)).mono ?_
  rintro e0 w0 ⟨rfl, NM⟩
  replace Og0 := own_only (by exact Og0) (by exact Qg0) NM
  replace HL := Blw.only (by exact HL) E0 NM
  clear NM D0
  have hk1 : (0 : Int) ≤ 1 + (n0 : Int) := by omega
  replace Rg0 := rdC_own' (by exact Og0)
  go_wp2_with fail
  refine (eqC_any _ _ _ _ _ Yg0 Vg0 Yw0 Vw0 _ (by exact Rg0) (by exact Rw0.below (Blw.out (by exact HL))) mw0 (fun i hi => (Lg0 i hi).trans (Lw0 i hi).symm) (fun i hi => (Mg0 i hi).trans (Mw0 i hi).symm)).mono ?_
  rintro e0 w0 ⟨rfl, q, rfl⟩
  clear Rg0
  go_wp2_with fail
  refine (markC_any _ _ m0 Yg0 Vg0 _ _ (by exact Og0) mg0 (by omega) (by omega)).mono ?_
  rintro e0 w0 ⟨rfl, Ok0, B0⟩
  replace HL := Blw.nextB (by exact HL) (B0.mono Eg)
  clear B0 Og0
  have hm1 : (0 : Int) ≤ 1 + (m0 : Int) := by omega
  go_wp2_with fail
  refine (heldC_any _ _ m0 _ _ (by exact Ok0) mg0 (by omega) (by omega)).mono ?_
  rintro e0 w0 ⟨rfl, rfl⟩
  go_wp2_with fail
  refine (toF_any _ _ _ X0 _ (by exact Z0.below (Blw.out (by exact HL))) h0).mono ?_
  rintro e0 w0 ⟨rfl, O0, B0⟩
  replace Ok0 := own_below (by exact Ok0) B0
  replace HL := Blw.next (by exact HL) B0
  have C0 := O0
  clear O0 B0
  go_wp2_with fail
  refine (HI.out _ _ _ (rd_own (by exact C0))).mono ?_
  rintro e0 w3 ⟨vh0, Yh0, Vh0, rfl, Oh0, Lh0, Mh0, mh0, B0⟩
  replace Ok0 := own_below (by exact Ok0) B0
  clear C0
  replace HL := Blw.next (by exact HL) B0
  clear B0
  obtain ⟨xh0, ch0, rfl, _, _, Rh0⟩ := rdC_of_own Oh0
  clear Oh0
  go_wp2_with fail
  refine (eqC_any _ _ _ _ _ Yh0 Vh0 Yw0 Vw0 _ (by exact Rh0) (by exact Rw0.below (Blw.out (by exact HL))) mw0 (fun i hi => (Lh0 i hi).trans (Lw0 i hi).symm) (fun i hi => (Mh0 i hi).trans (Mw0 i hi).symm)).mono ?_
  rintro e0 w0 ⟨rfl, q, rfl⟩
  clear Rh0
  go_wp2_with fail
  refine (heldC_any _ _ m0 _ _ (by exact Ok0) mg0 (by omega) (by omega)).mono ?_
  rintro e0 w0 ⟨rfl, rfl⟩
  go_wp2
  go_ret
  exact ⟨rfl, (Blw.out (by exact HB)).trans ((Blw.out (by exact HL)).mono (Blw.out (by exact HB)).size)⟩
set_option maxRecDepth 100000 in
set_option maxHeartbeats 1600000 in
theorem lawScanLines_any (W : World) (x0 : Option Addr) (n0 c0 : Nat) (X0 : Nat → Nat) (hX0 : Rd W x0 n0 X0) :
    Calls Try.prog 4 #[.slice x0 n0 c0] W fun e w' => e = .returned (.bool true) ∧ Below W.heap.size W w' := by
  by_cases h0 : n0 ≤ 1048576
  · skip
    obtain ⟨R0, I0, m0, r1, hs, hi⟩ := bothScanLines n0 X0 h0
    exact lawScanLines_in W x0 n0 c0 X0 hX0 h0 R0 I0 m0 r1 (Lib.hid hs) (Lib.hid hi)
  · have h' : (1048576 : Int) < (n0 : Int) := by omega
    go_enter Try.func4, Try.ntmps4
    go_wp2
    go_ret
    exact ⟨rfl, (Blw.refl W).out⟩
end Go.Proofs.Ytmpcalpapkedhaa
