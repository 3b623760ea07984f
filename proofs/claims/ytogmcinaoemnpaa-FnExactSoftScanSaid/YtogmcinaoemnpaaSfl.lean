
/- Of any scan and kind of softness the program tells the same softened scan as the model does; its answer owns its memory and the scan is not changed: for all arguments. -/
import Derived.Test.YtogmcinaoemnpaaSfi
import Derived.Test.YtogmcinaoemnpaaSfs
import Derived.Test.YtogmcinaoemnpaaLiC
import Derived.Test.YtogmcinaoemnpaaLaw
import Derived.Shelf.Abstract
namespace Go.Proofs.Ytogmcinaoemnpaa
set_option linter.all false
open Go Go.ChangeShapes Go.WideShapes Go.ChangeAt Go.RowKit

theorem sfI_yes (xa : Option Addr) (n cx k : Nat) (X : Nat → Nat) (w : World) (hX : Rd w xa n X) (hB : binB X n 2 = true) (hk : k ≤ 2) :
    Calls Try.prog 26 #[.slice xa n cx, .int .i64 (k : Int)] w (OutRet (sfR X n (k : Int)) n true w) := by
  rcases (by omega : k = 0 ∨ k = 1 ∨ k = 2) with rfl | rfl | rfl
  · exact implSf_yes xa n cx 0 X w hX hB hk 108 rfl (Lib.hid (enters_of Try.func108 (by kernel_rfl) rfl)) (Lib.hid fun t s0 w => soft1_any _ w)
  · exact implSf_yes xa n cx 1 X w hX hB hk 109 rfl (Lib.hid (enters_of Try.func109 (by kernel_rfl) rfl)) (Lib.hid fun t s0 w => soft2_any t s0 w)
  · exact implSf_yes xa n cx 2 X w hX hB hk 110 rfl (Lib.hid (enters_of Try.func110 (by kernel_rfl) rfl)) (Lib.hid fun t s0 w => soft3_any t s0 w)
/-- What is told of SoftScan. -/
def RetSoftScan (R0 : Nat → Nat) (m0 : Nat) (r1 : Bool) (w : World) (e : Ending) (w' : World) : Prop := ∃ (v0 : Value) (Y0 : Nat → Nat), e = .returned (.tuple #[v0, .bool r1]) ∧ w'.ownsRow w.heap.size 32 1 v0 m0 (rowOf Y0 m0) ∧ Like Y0 R0 m0 ∧ m0 ≤ 1048576 ∧ Below w.heap.size w w'
def okSf (X : Nat → Nat) (n : Nat) (k : Int) : Bool := binB X n 2 && inB k 0 2
theorem sfNo {R : Nat → Nat} {w w' : World} (hb : Below w.heap.size w w') : RetSoftScan R 0 false w (.returned (.tuple #[.slice none 0 0, .bool false])) w' :=
  ⟨_, fun _ => 0, rfl, World.ownsRow_nil _ _ _ _, fun _ h => absurd h (Nat.not_lt_zero _), Nat.zero_le _, hb⟩
set_option maxRecDepth 100000 in
set_option maxHeartbeats 1600000 in
theorem specSf_no (xa : Option Addr) (n cx : Nat) (X : Nat → Nat) (m : Int) (w : World) (hX : Rd w xa n X) (hn : n ≤ 1048576) (R : Nat → Nat) (hk : okSf X n m = false) :
    Calls Try.prog 25 #[.slice xa n cx, .int .i64 m] w (RetSoftScan R 0 false w) := by
  have HB := Lib.hid (fun (cx : Nat) w hX => specBins_any xa n cx X 2 w hX hn)
  cases c1 : binB X n 2
  · skip
    clear hk
    go_enter Try.func25, Try.ntmps25
    go_wp2_with (first | (go_at_call 65; refine (HB.out _ _ (by exact hX)).mono ?_; rintro e w' ⟨rfl, q, rfl⟩) | (first | (go_at_call 66; refine (l00In_any _ _ _ _).mono ?_; rintro e w' ⟨rfl, rfl⟩)))
    go_ret2
    refine sfNo ?_
    (repeat (first | with_reducible exact Below.refl _ _ | with_reducible refine Below.drewN ?_ _ | with_reducible refine Below.setCell ?_ (by simp; try omega) _ | with_reducible refine Below.alloc ?_ (by simp; try omega) _))
  · skip
    cases c2 : inB m 0 2
    · skip
      clear hk
      go_enter Try.func25, Try.ntmps25
      go_wp2_with (first | (go_at_call 65; refine (HB.out _ _ (by exact hX)).mono ?_; rintro e w' ⟨rfl, q, rfl⟩) | (first | (go_at_call 66; refine (l00In_any _ _ _ _).mono ?_; rintro e w' ⟨rfl, rfl⟩)))
      go_ret2
      refine sfNo ?_
      (repeat (first | with_reducible exact Below.refl _ _ | with_reducible refine Below.drewN ?_ _ | with_reducible refine Below.setCell ?_ (by simp; try omega) _ | with_reducible refine Below.alloc ?_ (by simp; try omega) _))
    · skip
      exfalso
      rw [okSf, c1, c2] at hk
      cases hk
set_option maxRecDepth 100000 in
set_option maxHeartbeats 1600000 in
theorem implSf_no (xa : Option Addr) (n cx : Nat) (X : Nat → Nat) (m : Int) (w : World) (hX : Rd w xa n X) (hn : n ≤ 1048576) (R : Nat → Nat) (hk : okSf X n m = false) :
    Calls Try.prog 26 #[.slice xa n cx, .int .i64 m] w (RetSoftScan R 0 false w) := by
  have HB := Lib.hid (fun (cx : Nat) w hX => isScan_any xa n cx X w hX hn)
  cases c1 : binB X n 2
  · skip
    clear hk
    go_enter Try.func26, Try.ntmps26
    go_wp2_with (go_at_call 68; refine (HB.out _ _ (by exact hX)).mono ?_; rintro e w' ⟨rfl, q, rfl⟩)
    go_ret2
    refine sfNo ?_
    (repeat (first | with_reducible exact Below.refl _ _ | with_reducible refine Below.drewN ?_ _ | with_reducible refine Below.setCell ?_ (by simp; try omega) _ | with_reducible refine Below.alloc ?_ (by simp; try omega) _))
  · skip
    cases c2 : decide (m < 0)
    rotate_left
    · skip
      clear hk
      go_enter Try.func26, Try.ntmps26
      go_wp2_with (go_at_call 68; refine (HB.out _ _ (by exact hX)).mono ?_; rintro e w' ⟨rfl, q, rfl⟩)
      go_ret2
      refine sfNo ?_
      (repeat (first | with_reducible exact Below.refl _ _ | with_reducible refine Below.drewN ?_ _ | with_reducible refine Below.setCell ?_ (by simp; try omega) _ | with_reducible refine Below.alloc ?_ (by simp; try omega) _))
    · skip
      cases c3 : decide (2 < m)
      rotate_left
      · skip
        clear hk
        go_enter Try.func26, Try.ntmps26
        go_wp2_with (go_at_call 68; refine (HB.out _ _ (by exact hX)).mono ?_; rintro e w' ⟨rfl, q, rfl⟩)
        go_ret2
        refine sfNo ?_
        (repeat (first | with_reducible exact Below.refl _ _ | with_reducible refine Below.drewN ?_ _ | with_reducible refine Below.setCell ?_ (by simp; try omega) _ | with_reducible refine Below.alloc ?_ (by simp; try omega) _))
      · skip
        exfalso
        have h1 := of_decide_eq_false c2
        have h2 := of_decide_eq_false c3
        rw [okSf, c1, inB_yes (by omega) (by omega)] at hk
        cases hk
theorem bothSoftScan (n : Nat) (X : Nat → Nat) (hn : n ≤ 1048576) (m : Int) (_ : (Lit.int .i64 m).wf = true) :
    ∃ (R : Nat → Nat) (c : Nat) (ok : Bool), (∀ (xa : Option Addr) (cx : Nat) (w : World), Rd w xa n X → Calls Try.prog 25 #[.slice xa n cx, .int .i64 m] w (RetSoftScan R c ok w)) ∧
      ∀ (xa : Option Addr) (cx : Nat) (w : World), Rd w xa n X → Calls Try.prog 26 #[.slice xa n cx, .int .i64 m] w (RetSoftScan R c ok w) := by
  cases hk : okSf X n m
  · exact ⟨fun _ => 0, 0, false, fun xa cx w hX => specSf_no xa n cx X m w hX hn _ hk, fun xa cx w hX => implSf_no xa n cx X m w hX hn _ hk⟩
  · unfold okSf at hk
    rw [Bool.and_eq_true] at hk
    have h1 := binB_at hk.1
    have h2 := inB_rng hk.2
    obtain ⟨k, rfl⟩ : ∃ k : Nat, m = k := ⟨m.toNat, by omega⟩
    have conv : ∀ {R : Nat → Nat} {w : World} {e : Ending} {w' : World}, OutRet R n true w e w' → RetSoftScan R n true w e w' := fun ⟨v, Z, he, ho, hL, hB⟩ => ⟨v, Z, he, ho, hL, hn, hB⟩
    exact ⟨sfR X n (k : Int), n, true, fun xa cx w hX => (specSf_yes xa n cx k X w hX hk.1 (by omega)).mono fun e w' h => conv h, fun xa cx w hX => (sfI_yes xa n cx k X w hX hk.1 (by omega)).mono fun e w' h => conv h⟩
set_option maxRecDepth 100000 in
set_option maxHeartbeats 6400000 in
theorem lawSoftScan_in (W : World) (x0 : Option Addr) (n0 c0 : Nat) (X0 : Nat → Nat) (hX0 : Rd W x0 n0 X0) (a1 : Int) (_wf1 : (Lit.int .i64 a1).wf = true) (h0 : n0 ≤ 1048576) (R0 : Nat → Nat) (m0 : Nat) (r1 : Bool) (HS : Hid (∀ (x0 : Option Addr) (c0 : Nat) (w : World), Rd w x0 n0 X0 → Calls Try.prog 25 #[.slice x0 n0 c0, .int .i64 a1] w (RetSoftScan R0 m0 r1 w))) (HI : Hid (∀ (x0 : Option Addr) (c0 : Nat) (w : World), Rd w x0 n0 X0 → Calls Try.prog 26 #[.slice x0 n0 c0, .int .i64 a1] w (RetSoftScan R0 m0 r1 w))) :
    Calls Try.prog 6 #[.slice x0 n0 c0, .int .i64 a1] W fun e w' => e = .returned (.bool true) ∧ Below W.heap.size W w' := by
  have hcv := fun (R : Nat) (s t : Nat) => show canon .f64 (pick .f64 (fconv .f32 (pick .f32 R s) .f64) t) = canon .f64 (fconv .f32 R .f64) by rw [canon_pick, fconv_pick]
  have hcw := fun (R : Nat) (s t : Nat) => show canon .f64 (pick .f64 R s) = canon .f64 (pick .f64 R t) by rw [canon_pick, canon_pick]
  have HCV := Lib.hid hcv
  have HCW := Lib.hid hcw
  clear hcv hcw
  have hnb1 : (r1 != r1) = false := by simp
  have HB := Blw.refl W
  go_enter Try.func6, Try.ntmps6
  go_wp2_with fail
  refine (toF_any _ _ _ X0 _ (by exact hX0.below (Blw.out (by exact HB))) h0).mono ?_
  rintro e0 w0 ⟨rfl, O0, B0⟩
  replace HB := Blw.next (by exact HB) B0
  have C0 := O0
  clear O0 B0
  go_wp2_with fail
  refine (HS.out _ _ _ (rd_own (by exact C0))).mono ?_
  rintro e0 w1 ⟨vw0, Yw0, rfl, Ow0, Lw0, mw0, B0⟩
  clear C0
  replace HB := Blw.next (by exact HB) B0
  clear B0
  have Z0 := hX0.below HB.out
  obtain ⟨xw0, cw0, rfl, _, _, Rw0⟩ := rd_of_own Ow0
  clear Ow0
  have HL := Blw.refl w1
  have E0 := (Blw.out (by exact HL)).size
  go_wp2_with fail
  refine (toF_any _ _ _ X0 _ (by exact Z0.below (Blw.out (by exact HL))) h0).mono ?_
  rintro e0 w0 ⟨rfl, O0, B0⟩
  replace HL := Blw.next (by exact HL) B0
  have D0 := O0
  clear O0 B0
  have Qg0 := own_lt (by exact D0)
  have Eg := (Blw.out (by exact HL)).size
  go_wp2_with fail
  refine (HI.out _ _ _ (rd_own (by exact D0))).mono ?_
  rintro e0 w2 ⟨vg0, Yg0, rfl, Og0, Lg0, mg0, B0⟩
  replace D0 := own_below (by exact D0) B0
  replace HL := Blw.next (by exact HL) B0
  clear B0
  have O_0 := Og0
  obtain ⟨xg0, cg0, rfl, _, _, Rg0⟩ := rd_of_own O_0
  clear O_0
  go_wp2_with fail
  refine (eqF_any _ _ _ _ _ Yg0 Yw0 _ (by exact Rg0) (by exact Rw0.below (Blw.out (by exact HL))) mw0 (fun i hi => (Lg0 i hi).trans (Lw0 i hi).symm)).mono ?_
  rintro e0 w0 ⟨rfl, q, rfl⟩
  go_wp2_with fail
  refine (toF_any _ _ _ X0 _ (by exact Z0.below (Blw.out (by exact HL))) h0).mono ?_
  rintro e0 w0 ⟨rfl, O0, B0⟩
  replace D0 := own_below (by exact D0) B0
  replace Og0 := own_below (by exact Og0) B0
  replace HL := Blw.next (by exact HL) B0
  have K0 := O0
  clear O0 B0
  go_wp2_with fail
  refine (eqF_any _ _ _ _ _ X0 X0 _ (by exact rd_own (by exact D0)) (by exact rd_own (by exact K0)) h0 (fun _ _ => rfl)).mono ?_
  rintro e0 w0 ⟨rfl, q, rfl⟩
  clear K0
  go_wp2_with fail
  refine (markX_any _ _ n0 _ X0 _ _ (by exact D0) h0 (by omega) (by omega)).mono ?_
  rintro e0 w0 ⟨rfl, NM⟩
  replace Og0 := own_only (by exact Og0) (by exact Qg0) NM
  replace HL := Blw.only (by exact HL) E0 NM
  clear NM D0
  have hk1 : (0 : Int) ≤ 1 + (n0 : Int) := by omega
  replace Rg0 := rd_own' (by exact Og0)
  go_wp2_with fail
  refine (eqF_any _ _ _ _ _ Yg0 Yw0 _ (by exact Rg0) (by exact Rw0.below (Blw.out (by exact HL))) mw0 (fun i hi => (Lg0 i hi).trans (Lw0 i hi).symm)).mono ?_
  rintro e0 w0 ⟨rfl, q, rfl⟩
  clear Rg0
  go_wp2_with fail
  refine (markF_any _ _ m0 Yg0 _ _ (by exact Og0) mg0 (by omega) (by omega)).mono ?_
  rintro e0 w0 ⟨rfl, Ok0, B0⟩
  replace HL := Blw.nextB (by exact HL) (B0.mono Eg)
  clear B0 Og0
  have hm1 : (0 : Int) ≤ 1 + (m0 : Int) := by omega
  go_wp2_with fail
  refine (heldF_any _ _ m0 _ _ (by exact Ok0) mg0 (by omega) (by omega)).mono ?_
  rintro e0 w0 ⟨rfl, rfl⟩
  go_wp2_with fail
  refine (toF_any _ _ _ X0 _ (by exact Z0.below (Blw.out (by exact HL))) h0).mono ?_
  rintro e0 w0 ⟨rfl, O0, B0⟩
  replace Ok0 := own_below (by exact Ok0) B0
  replace HL := Blw.next (by exact HL) B0
  have C0 := O0
  clear O0 B0
  go_wp2_with fail
  refine (HI.out _ _ _ (rd_own (by exact C0))).mono ?_
  rintro e0 w3 ⟨vh0, Yh0, rfl, Oh0, Lh0, mh0, B0⟩
  replace Ok0 := own_below (by exact Ok0) B0
  clear C0
  replace HL := Blw.next (by exact HL) B0
  clear B0
  obtain ⟨xh0, ch0, rfl, _, _, Rh0⟩ := rd_of_own Oh0
  clear Oh0
  go_wp2_with fail
  refine (eqF_any _ _ _ _ _ Yh0 Yw0 _ (by exact Rh0) (by exact Rw0.below (Blw.out (by exact HL))) mw0 (fun i hi => (Lh0 i hi).trans (Lw0 i hi).symm)).mono ?_
  rintro e0 w0 ⟨rfl, q, rfl⟩
  clear Rh0
  go_wp2_with fail
  refine (heldF_any _ _ m0 _ _ (by exact Ok0) mg0 (by omega) (by omega)).mono ?_
  rintro e0 w0 ⟨rfl, rfl⟩
  go_wp2
  go_ret
  exact ⟨rfl, (Blw.out (by exact HB)).trans ((Blw.out (by exact HL)).mono (Blw.out (by exact HB)).size)⟩
set_option maxRecDepth 100000 in
set_option maxHeartbeats 1600000 in
theorem lawSoftScan_any (W : World) (x0 : Option Addr) (n0 c0 : Nat) (X0 : Nat → Nat) (hX0 : Rd W x0 n0 X0) (a1 : Int) (_wf1 : (Lit.int .i64 a1).wf = true) :
    Calls Try.prog 6 #[.slice x0 n0 c0, .int .i64 a1] W fun e w' => e = .returned (.bool true) ∧ Below W.heap.size W w' := by
  by_cases h0 : n0 ≤ 1048576
  · skip
    obtain ⟨R0, m0, r1, hs, hi⟩ := bothSoftScan n0 X0 h0 a1 _wf1
    exact lawSoftScan_in W x0 n0 c0 X0 hX0 a1 _wf1 h0 R0 m0 r1 (Lib.hid hs) (Lib.hid hi)
  · have h' : (1048576 : Int) < (n0 : Int) := by omega
    go_enter Try.func6, Try.ntmps6
    go_wp2
    go_ret
    exact ⟨rfl, (Blw.refl W).out⟩
end Go.Proofs.Ytogmcinaoemnpaa
