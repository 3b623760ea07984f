/- Of any list, library and rounds the program tells shares and how far just where the model does, and the same; they are not changed: for all arguments. -/
import Derived.Test.YtehlflldnihamabSame
import Derived.Test.YtehlflldnihamabUmy
import Derived.Test.YtehlflldnihamabFlG
namespace Go.Proofs.Ytehlflldnihamab
open Go Go.ChangeShapes Go.WideShapes Go.ChangeAt Go.RowKit

/-- What is told of Unmix. -/
def RetUnmix (R0 : Nat → Nat) (m0 : Nat) (r1 : Nat) (r2 : Bool) (w : World) (e : Ending) (w' : World) : Prop := ∃ (v0 : Value) (Y0 : Nat → Nat) (s1 : Nat), e = .returned (.tuple #[v0, .float .f32 (pick .f32 r1 s1), .bool r2]) ∧ w'.ownsRow w.heap.size 43 1 v0 m0 (rowOf Y0 m0) ∧ Like Y0 R0 m0 ∧ m0 ≤ 1048576 ∧ Below w.heap.size w w'
theorem bothUnmix (n : Nat) (L : Nat → Nat) (hn : n ≤ 1048576) (K : Nat) (N : Nat → Nat) (X : Nat → Nat → Nat) (h : K + totN N K ≤ 1048576) (T : Int) (_ : (Lit.int .i64 T).wf = true) :
    ∃ (R : Nat → Nat) (m r : Nat) (ok : Bool), (∀ (la : Option Addr) (cl : Nat) (xa : Option Addr) (c : Nat) (w : World), Rd w la n L → RdR w xa K N X → Calls Try.prog 34 #[.slice la n cl, .slice xa K c, .int .i64 T] w (RetUnmix R m r ok w)) ∧
      ∀ (la : Option Addr) (cl : Nat) (xa : Option Addr) (c : Nat) (w : World), Rd w la n L → RdR w xa K N X → Calls Try.prog 35 #[.slice la n cl, .slice xa K c, .int .i64 T] w (RetUnmix R m r ok w) :=
  ⟨_, _, _, _, fun la cl xa c w hL hX => specUnm_any la n cl L xa K c N X T w hL hX hn h _ (Lib.hid rfl) _ (Lib.hid rfl) _ (Lib.hid rfl), fun la cl xa c w hL hX => implUnm_any la n cl L xa K c N X T w hL hX hn h _ (Lib.hid rfl) _ (Lib.hid rfl) _ (Lib.hid rfl)⟩
set_option maxRecDepth 100000 in
set_option maxHeartbeats 6400000 in
theorem lawUnmix_in (W : World) (x0 : Option Addr) (n0 c0 : Nat) (X0 : Nat → Nat) (hX0 : Rd W x0 n0 X0) (x1 : Option Addr) (n1 c1 : Nat) (N1 : Nat → Nat) (X1 : Nat → Nat → Nat) (hX1 : RdR W x1 n1 N1 X1) (_hm1 : n1 ≤ maxLen) (_hN1 : ∀ j, j < n1 → N1 j ≤ maxLen) (a2 : Int) (_wf2 : (Lit.int .i64 a2).wf = true) (h0 : n0 ≤ 1048576) (h1 : n1 + totN N1 n1 ≤ 1048576) (R0 : Nat → Nat) (m0 : Nat) (r1 : Nat) (r2 : Bool) (HS : Hid (∀ (x0 : Option Addr) (c0 : Nat) (x1 : Option Addr) (c1 : Nat) (w : World), Rd w x0 n0 X0 → RdR w x1 n1 N1 X1 → Calls Try.prog 34 #[.slice x0 n0 c0, .slice x1 n1 c1, .int .i64 a2] w (RetUnmix R0 m0 r1 r2 w))) (HI : Hid (∀ (x0 : Option Addr) (c0 : Nat) (x1 : Option Addr) (c1 : Nat) (w : World), Rd w x0 n0 X0 → RdR w x1 n1 N1 X1 → Calls Try.prog 35 #[.slice x0 n0 c0, .slice x1 n1 c1, .int .i64 a2] w (RetUnmix R0 m0 r1 r2 w))) :
    Calls Try.prog 7 #[.slice x0 n0 c0, .slice x1 n1 c1, .int .i64 a2] W fun e w' => e = .returned (.bool true) ∧ Below W.heap.size W w' := by
  have hcv := fun (R : Nat) (s t : Nat) => show canon .f64 (pick .f64 (fconv .f32 (pick .f32 R s) .f64) t) = canon .f64 (fconv .f32 R .f64) by rw [canon_pick, fconv_pick]
  have hcw := fun (R : Nat) (s t : Nat) => show canon .f64 (pick .f64 R s) = canon .f64 (pick .f64 R t) by rw [canon_pick, canon_pick]
  have HCV := Lib.hid hcv
  have HCW := Lib.hid hcw
  clear hcv hcw
  have hnb2 : (r2 != r2) = false := by simp
  have HB := Blw.refl W
  have hz1 : (0 : Int) ≤ 1048576 - (n1 : Int) - (totN N1 n1 : Int) := by omega
  go_enter Try.func7, Try.ntmps7
  go_wp2_with fail
  refine (szFF_yes _ _ _ N1 X1 _ (by exact hX1) h1).mono ?_
  rintro e0 w0 ⟨rfl, rfl⟩
  go_wp2_with fail
  refine (toF_any _ _ _ X0 _ (by exact hX0.below (Blw.out (by exact HB))) h0).mono ?_
  rintro e0 w0 ⟨rfl, O0, B0⟩
  replace HB := Blw.next (by exact HB) B0
  have C0 := O0
  clear O0 B0
  go_wp2_with fail
  refine (toFF_any _ _ _ N1 X1 _ (by exact hX1.below (Blw.out (by exact HB))) h1).mono ?_
  rintro e0 w0 ⟨_, _, rfl, O0, B0⟩
  replace C0 := own_below (by exact C0) B0
  replace HB := Blw.next (by exact HB) B0
  have C1 := O0
  clear O0 B0
  go_wp2_with fail
  refine (HS.out _ _ _ _ _ (rd_own (by exact C0)) (OwnRR.rd (by exact C1))).mono ?_
  rintro e0 w1 ⟨vw0, Yw0, sw1, rfl, Ow0, Lw0, mw0, B0⟩
  clear C0
  clear C1
  replace HB := Blw.next (by exact HB) B0
  clear B0
  have Z0 := hX0.below HB.out
  have Z1 := hX1.below HB.out
  obtain ⟨xw0, cw0, rfl, _, _, Rw0⟩ := rd_of_own Ow0
  clear Ow0
  have HL := Blw.refl w1
  have E0 := (Blw.out (by exact HL)).size
  go_wp2_with fail
  refine (toF_any _ _ _ X0 _ (by exact Z0.below (Blw.out (by exact HL))) h0).mono ?_
  rintro e0 w0 ⟨rfl, O0, B0⟩
  replace HL := Blw.next (by exact HL) B0
  have D0 := O0
  clear O0 B0
  have E1 := (Blw.out (by exact HL)).size
  have Q0_1 := own_lt (by exact D0)
  go_wp2_with fail
  refine (toFF_any _ _ _ N1 X1 _ (by exact Z1.below (Blw.out (by exact HL))) h1).mono ?_
  rintro e0 w0 ⟨_, _, rfl, O0, B0⟩
  replace D0 := own_below (by exact D0) B0
  replace HL := Blw.next (by exact HL) B0
  have D1 := O0
  clear O0 B0
  have Qg0 := own_lt (by exact D0)
  have Qg1 := (fun j hj => OwnRR.lt (by exact D1) (i := j) hj)
  have Eg := (Blw.out (by exact HL)).size
  go_wp2_with fail
  refine (HI.out _ _ _ _ _ (rd_own (by exact D0)) (OwnRR.rd (by exact D1))).mono ?_
  rintro e0 w2 ⟨vg0, Yg0, sg1, rfl, Og0, Lg0, mg0, B0⟩
  replace D0 := own_below (by exact D0) B0
  replace D1 := OwnRR.below (by exact D1) B0
  replace HL := Blw.next (by exact HL) B0
  clear B0
  have O_0 := Og0
  obtain ⟨xg0, cg0, rfl, _, _, Rg0⟩ := rd_of_own O_0
  clear O_0
  go_wp2_with fail
  refine (eqF_any _ _ _ _ _ Yg0 Yw0 _ (by exact Rg0) (by exact Rw0.below (Blw.out (by exact HL))) mw0 (fun i hi => (Lg0 i hi).trans (Lw0 i hi).symm)).mono ?_
  rintro e0 w0 ⟨rfl, q, rfl⟩
  go_wp2_with (first | ((with_reducible refine wpL_fconv ?_); refine ⟨_, _, _, rfl, Option.isSome_iff_exists.2 ⟨_, Try.underlying43⟩, Try.underlying47, FloatKind.noConfusion, convOk_widen _, fun s n => ?_⟩) | ((with_reducible refine wpL_fconv_g ?_); refine ⟨rfl, _, _, _, rfl, Option.isSome_iff_exists.2 ⟨_, Try.underlying43⟩, Try.underlying47, FloatKind.noConfusion, convOk_widen _, fun s n => ?_⟩))
  refine (sameFloat_any _ _ _ ((HCV.out _ _ _).trans (HCV.out _ _ _).symm)).mono ?_
  rintro e0 w0 ⟨rfl, q, rfl⟩
  go_wp2_with fail
  refine (toF_any _ _ _ X0 _ (by exact Z0.below (Blw.out (by exact HL))) h0).mono ?_
  rintro e0 w0 ⟨rfl, O0, B0⟩
  replace D0 := own_below (by exact D0) B0
  replace D1 := OwnRR.below (by exact D1) B0
  replace Og0 := own_below (by exact Og0) B0
  replace HL := Blw.next (by exact HL) B0
  have K0 := O0
  clear O0 B0
  go_wp2_with fail
  refine (eqF_any _ _ _ _ _ X0 X0 _ (by exact rd_own (by exact D0)) (by exact rd_own (by exact K0)) h0 (fun _ _ => rfl)).mono ?_
  rintro e0 w0 ⟨rfl, q, rfl⟩
  clear K0
  go_wp2_with fail
  refine (toFF_any _ _ _ N1 X1 _ (by exact Z1.below (Blw.out (by exact HL))) h1).mono ?_
  rintro e0 w0 ⟨_, _, rfl, O0, B0⟩
  replace D0 := own_below (by exact D0) B0
  replace D1 := OwnRR.below (by exact D1) B0
  replace Og0 := own_below (by exact Og0) B0
  replace HL := Blw.next (by exact HL) B0
  have K1 := O0
  clear O0 B0
  go_wp2_with fail
  refine (eqFF_any _ _ _ _ _ N1 X1 _ (by exact OwnRR.rd (by exact D1)) (by exact OwnRR.rd (by exact K1)) h1).mono ?_
  rintro e0 w0 ⟨rfl, q, rfl⟩
  clear K1
  go_wp2_with fail
  refine (markX_any _ _ n0 _ X0 _ _ (by exact D0) h0 (by omega) (by omega)).mono ?_
  rintro e0 w0 ⟨rfl, NM⟩
  replace D1 := OwnRR.only (by exact D1) (by exact Q0_1) NM
  replace Og0 := own_only (by exact Og0) (by exact Qg0) NM
  replace HL := Blw.only (by exact HL) E0 NM
  clear NM D0
  go_wp2_with fail
  have EG1 := Nat.le_trans E1 (OwnRR.ge (by exact D1))
  refine (markFF_any _ _ _ n1 N1 X1 _ _ (by exact D1) h1 (by omega) (by omega)).mono ?_
  rintro e0 w0 ⟨rfl, NM⟩
  replace Og0 := own_btw (by exact Og0) (Nat.le_refl _) (NM _ (by exact Qg1))
  replace HL := Blw.btw (by exact HL) EG1 (NM _ (by exact Qg1))
  clear NM D1
  have hk1 : (0 : Int) ≤ 1 + (n0 : Int) + (totN N1 n1 : Int) := by omega
  replace Rg0 := rd_own' (by exact Og0)
  go_wp2_with fail
  refine (eqF_any _ _ _ _ _ Yg0 Yw0 _ (by exact Rg0) (by exact Rw0.below (Blw.out (by exact HL))) mw0 (fun i hi => (Lg0 i hi).trans (Lw0 i hi).symm)).mono ?_
  rintro e0 w0 ⟨rfl, q, rfl⟩
  go_wp2_with (first | ((with_reducible refine wpL_fconv ?_); refine ⟨_, _, _, rfl, Option.isSome_iff_exists.2 ⟨_, Try.underlying43⟩, Try.underlying47, FloatKind.noConfusion, convOk_widen _, fun s n => ?_⟩) | ((with_reducible refine wpL_fconv_g ?_); refine ⟨rfl, _, _, _, rfl, Option.isSome_iff_exists.2 ⟨_, Try.underlying43⟩, Try.underlying47, FloatKind.noConfusion, convOk_widen _, fun s n => ?_⟩))
  refine (sameFloat_any _ _ _ ((HCV.out _ _ _).trans (HCV.out _ _ _).symm)).mono ?_
  rintro e0 w0 ⟨rfl, q, rfl⟩
  clear Rg0
  go_wp2_with fail
  refine (markF_any _ _ m0 Yg0 _ _ (by exact Og0) mg0 (by omega) (by omega)).mono ?_
  rintro e0 w0 ⟨rfl, Ok0, B0⟩
  replace HL := Blw.nextB (by exact HL) (B0.mono Eg)
  clear B0 Og0
  have hm1 : (0 : Int) ≤ 1 + (m0 : Int) := by omega
  go_wp2_with fail
  refine (heldF_any _ _ m0 _ _ (by exact Ok0) mg0 (by omega) (by omega)).mono ?_
  rintro e0 w0 ⟨rfl, rfl⟩
  go_wp2_with fail
  refine (toF_any _ _ _ X0 _ (by exact Z0.below (Blw.out (by exact HL))) h0).mono ?_
  rintro e0 w0 ⟨rfl, O0, B0⟩
  replace Ok0 := own_below (by exact Ok0) B0
  replace HL := Blw.next (by exact HL) B0
  have C0 := O0
  clear O0 B0
  go_wp2_with fail
  refine (toFF_any _ _ _ N1 X1 _ (by exact Z1.below (Blw.out (by exact HL))) h1).mono ?_
  rintro e0 w0 ⟨_, _, rfl, O0, B0⟩
  replace C0 := own_below (by exact C0) B0
  replace Ok0 := own_below (by exact Ok0) B0
  replace HL := Blw.next (by exact HL) B0
  have C1 := O0
  clear O0 B0
  go_wp2_with fail
  refine (HI.out _ _ _ _ _ (rd_own (by exact C0)) (OwnRR.rd (by exact C1))).mono ?_
  rintro e0 w3 ⟨vh0, Yh0, sh1, rfl, Oh0, Lh0, mh0, B0⟩
  replace Ok0 := own_below (by exact Ok0) B0
  clear C0
  clear C1
  replace HL := Blw.next (by exact HL) B0
  clear B0
  obtain ⟨xh0, ch0, rfl, _, _, Rh0⟩ := rd_of_own Oh0
  clear Oh0
  go_wp2_with fail
  refine (eqF_any _ _ _ _ _ Yh0 Yw0 _ (by exact Rh0) (by exact Rw0.below (Blw.out (by exact HL))) mw0 (fun i hi => (Lh0 i hi).trans (Lw0 i hi).symm)).mono ?_
  rintro e0 w0 ⟨rfl, q, rfl⟩
  go_wp2_with (first | ((with_reducible refine wpL_fconv ?_); refine ⟨_, _, _, rfl, Option.isSome_iff_exists.2 ⟨_, Try.underlying43⟩, Try.underlying47, FloatKind.noConfusion, convOk_widen _, fun s n => ?_⟩) | ((with_reducible refine wpL_fconv_g ?_); refine ⟨rfl, _, _, _, rfl, Option.isSome_iff_exists.2 ⟨_, Try.underlying43⟩, Try.underlying47, FloatKind.noConfusion, convOk_widen _, fun s n => ?_⟩))
  refine (sameFloat_any _ _ _ ((HCV.out _ _ _).trans (HCV.out _ _ _).symm)).mono ?_
  rintro e0 w0 ⟨rfl, q, rfl⟩
  clear Rh0
  go_wp2_with fail
  refine (heldF_any _ _ m0 _ _ (by exact Ok0) mg0 (by omega) (by omega)).mono ?_
  rintro e0 w0 ⟨rfl, rfl⟩
  go_wp2
  go_ret
  exact ⟨rfl, (Blw.out (by exact HB)).trans ((Blw.out (by exact HL)).mono (Blw.out (by exact HB)).size)⟩
set_option maxRecDepth 100000 in
set_option maxHeartbeats 1600000 in
theorem lawUnmix_any (W : World) (x0 : Option Addr) (n0 c0 : Nat) (X0 : Nat → Nat) (hX0 : Rd W x0 n0 X0) (x1 : Option Addr) (n1 c1 : Nat) (N1 : Nat → Nat) (X1 : Nat → Nat → Nat) (hX1 : RdR W x1 n1 N1 X1) (_hm1 : n1 ≤ maxLen) (_hN1 : ∀ j, j < n1 → N1 j ≤ maxLen) (a2 : Int) (_wf2 : (Lit.int .i64 a2).wf = true) :
    Calls Try.prog 7 #[.slice x0 n0 c0, .slice x1 n1 c1, .int .i64 a2] W fun e w' => e = .returned (.bool true) ∧ Below W.heap.size W w' := by
  by_cases h0 : n0 ≤ 1048576
  · skip
    by_cases h1 : n1 + totN N1 n1 ≤ 1048576
    · skip
      obtain ⟨R0, m0, r1, r2, hs, hi⟩ := bothUnmix n0 X0 h0 n1 N1 X1 h1 a2 _wf2
      exact lawUnmix_in W x0 n0 c0 X0 hX0 x1 n1 c1 N1 X1 hX1 _hm1 _hN1 a2 _wf2 h0 h1 R0 m0 r1 r2 (Lib.hid hs) (Lib.hid hi)
    · go_enter Try.func7, Try.ntmps7
      go_wp2_with (go_at_call 15; refine (szFF_no _ _ _ N1 X1 _ (by exact hX1) _hm1 _hN1 (by omega)).mono ?_; rintro e0 w0 ⟨rfl, rfl⟩)
      go_ret
      exact ⟨rfl, (Blw.refl _).out⟩
  · have h' : (1048576 : Int) < (n0 : Int) := by omega
    go_enter Try.func7, Try.ntmps7
    go_wp2
    go_ret
    exact ⟨rfl, (Blw.refl W).out⟩
end Go.Proofs.Ytehlflldnihamab
