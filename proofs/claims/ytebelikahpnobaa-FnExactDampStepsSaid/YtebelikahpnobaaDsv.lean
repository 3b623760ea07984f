/- For any list, numbers and steps the program tells the vector behind the steps just where the model does, and the same; the list is not changed: for all arguments. -/
import Derived.Test.YtebelikahpnobaaSame
import Derived.Test.YtebelikahpnobaaDsu
import Derived.Test.YtebelikahpnobaaLiC
import Derived.Test.YtebelikahpnobaaLaw
namespace Go.Proofs.Ytebelikahpnobaa
open Go Go.ChangeShapes Go.WideShapes Go.ChangeAt Go.RowKit

def DamRet (b : Bool) (w : World) (e : Ending) (w' : World) : Prop := e = .returned (.bool b) ∧ Below w.heap.size w w'
set_option maxRecDepth 100000 in
set_option maxHeartbeats 1600000 in
theorem dampValid_any (r o p d : Nat) (w : World) (b : Bool) (hb : Hid (b = (finL (duo r o) 2 && gL (duo p d) 2))) : Calls Try.prog 78 #[.agg #[.float .f32 r, .float .f32 o, .float .f32 p, .float .f32 d]] w (DamRet b w) := by
  cases c1 : finL (duo r o) 2
  · skip
    have HB := Lib.hid (show b = false by rw [hb.out, c1, Bool.false_and])
    clear hb
    go_enter Try.func78, Try.ntmps78
    go_wp2_with (first | (go_at_call 46; refine (areAtLeastZero_any _ _ _ (duo _ _) _ (by exact rd_two' _ _ _ _ (by simp)) (by omega)).mono ?_; rintro e w' ⟨rfl, q, rfl⟩) | (go_at_call 47; refine (allFinite_any _ _ _ (duo _ _) _ (by exact rd_two' _ _ _ _ (by simp)) (by omega)).mono ?_; rintro e w' ⟨rfl, q, rfl⟩))
    go_ret
    refine ⟨ret_bool HB.out.symm, ?_⟩
    (repeat (first | with_reducible exact Below.refl _ _ | with_reducible refine Below.drewN ?_ _ | with_reducible refine Below.setCell ?_ (by simp; try omega) _ | with_reducible refine Below.alloc ?_ (by simp; try omega) _))
  · skip
    have HB := Lib.hid (show b = gL (duo p d) 2 by rw [hb.out, c1, Bool.true_and])
    clear hb
    go_enter Try.func78, Try.ntmps78
    go_wp2_with (first | (go_at_call 46; refine (areAtLeastZero_any _ _ _ (duo _ _) _ (by exact rd_two' _ _ _ _ (by simp)) (by omega)).mono ?_; rintro e w' ⟨rfl, q, rfl⟩) | (go_at_call 47; refine (allFinite_any _ _ _ (duo _ _) _ (by exact rd_two' _ _ _ _ (by simp)) (by omega)).mono ?_; rintro e w' ⟨rfl, q, rfl⟩))
    go_ret
    refine ⟨ret_bool HB.out.symm, ?_⟩
    (repeat (first | with_reducible exact Below.refl _ _ | with_reducible refine Below.drewN ?_ _ | with_reducible refine Below.setCell ?_ (by simp; try omega) _ | with_reducible refine Below.alloc ?_ (by simp; try omega) _))
theorem okDst_eq (n : Nat) (X : Nat → Nat) (r o p d h : Nat) (T : Int) : okDst n X r o p d h T = (decide (n = 3) && (finL (duo r o) 2 && gL (duo p d) 2) && (finL X n && isG h && inB T 0 512)) := by
  rw [finL_two, gL_two]
  unfold okDst
  rw [Bool.and_assoc (decide (n = 3))]
set_option maxRecDepth 100000 in
set_option maxHeartbeats 3200000 in
theorem implDst_len (xa : Option Addr) (n cap : Nat) (r o p d h : Nat) (T : Int) (w : World) (_ : n ≤ 1048576) (R : Nat → Nat) (h3 : ((n : Int) != 3) = true) :
    Calls Try.prog 42 #[.slice xa n cap, .float .f32 r, .float .f32 o, .float .f32 p, .float .f32 d, .float .f32 h, .int .i64 T] w (OutRet R 0 false w) := by
  have hst := run_store_f32
  go_enter Try.func42, Try.ntmps42
  go_wp2_with fail
  go_ret2
  refine OutRet.no ?_
  (repeat (first | with_reducible exact Below.refl _ _ | with_reducible refine Below.drewN ?_ _ | with_reducible refine Below.setCell ?_ (by simp; try omega) _ | with_reducible refine Below.alloc ?_ (by simp; try omega) _))
set_option maxRecDepth 100000 in
set_option maxHeartbeats 3200000 in
theorem implDst_any (xa : Option Addr) (cap : Nat) (X : Nat → Nat) (r o p d h : Nat) (T : Int) (w : World) (hX : Rd w xa 3 X) (G : Nat → Nat → Nat) (hG : G = stepR (dampG r o p d) h X) (n : Nat) (ok : Bool) (hn : n = if ok = true then 3 else 0) (ho : ok = (okDst 3 X r o p d h T && finL (G T.toNat) 3)) :
    Calls Try.prog 42 #[.slice xa 3 cap, .float .f32 r, .float .f32 o, .float .f32 p, .float .f32 d, .float .f32 h, .int .i64 T] w (OutRet (G T.toNat) n ok w) := by
  have hst := run_store_f32
  obtain ⟨b, hb⟩ : ∃ b, b = (finL (duo r o) 2 && gL (duo p d) 2) := ⟨_, rfl⟩
  have HV := Lib.hid hb
  have hv := okDst_eq 3 X r o p d h T
  rw [← hb, decide_eq_true rfl, Bool.true_and] at hv
  clear hb
  have HC := box4_alloc w r o p d 81
  have HD := (Below.refl _ w).alloc (Nat.le_refl _) (.cells #[.float .f32 r, .float .f32 o, .float .f32 p, .float .f32 d] 81)
  have HX := hX.alloc (.cells #[.float .f32 r, .float .f32 o, .float .f32 p, .float .f32 d] 81)
  cases b
  · obtain rfl : ok = false := by rw [ho, hv, Bool.false_and, Bool.false_and]
    obtain rfl : n = 0 := by rw [hn, if_neg (by simp)]
    clear ho hn hv hG HX hX
    go_enter Try.func42, Try.ntmps42
    go_wp2_with (first | (go_at_call 78; refine (dampValid_any _ _ _ _ _ _ HV).mono ?_; rintro e0 w1 ⟨rfl, B0⟩))
    go_ret2
    exact OutRet.no (HD.trans (B0.mono HD.size))
  · rw [Bool.true_and] at hv
    by_cases hk : finL X 3 = true ∧ isG h = true ∧ inB T 0 512 = true
    · obtain ⟨k1, k2, k3⟩ := hk
      obtain ⟨t, rfl⟩ : ∃ t : Nat, T = (t : Int) := ⟨T.toNat, by have := inB_rng k3; omega⟩
      have htb : t ≤ 512 := by have := inB_rng k3; omega
      rw [Int.toNat_natCast] at ho ⊢
      obtain rfl : ok = finL (G t) 3 := by rw [ho, hv, k1, k2, k3]; rfl
      have HS := Lib.hid (fun (w : World) xa cap hX => dampSteps_yes r o p d h t xa cap X w hX k1 k2 htb)
      rw [← hG] at HS
      unfold LevRet at HS
      rw [← hn] at HS
      clear ho hn hv hG k1 k2 k3 hX
      go_enter Try.func42, Try.ntmps42
      go_wp2_with (first | (go_at_call 78; refine (dampValid_any _ _ _ _ _ _ HV).mono ?_; rintro e0 w1 ⟨rfl, B0⟩; obtain ⟨p0, p1, p2, p3⟩ := HC.below B0; have HE := HD.trans (B0.mono HD.size); have HY := HX.below B0; have hz := HE.size) | (go_at_call 75; refine (HS.out _ _ _ (by exact HY)).mono ?_; rintro e0 w2 ⟨v2, X2, rfl, O2, L2, B2⟩))
      go_ret2
      exact ⟨v2, X2, rfl, own_mono0 O2 hz, L2, HE.trans (B2.mono hz)⟩
    · have hk' : finL X 3 = false ∨ isG h = false ∨ inB T 0 512 = false := by
        clear hv hst HV HC HD ho hn hG HX hX
        cases c1 : finL X 3
        · exact .inl rfl
        · cases c2 : isG h
          · exact .inr (.inl rfl)
          · cases c3 : inB T 0 512
            · exact .inr (.inr rfl)
            · exact absurd ⟨c1, c2, c3⟩ hk
      obtain rfl : ok = false := by
        rw [ho, hv]
        rcases hk' with e | e | e
        · rw [e, Bool.false_and, Bool.false_and, Bool.false_and]
        · rw [e, Bool.and_false, Bool.false_and, Bool.false_and]
        · rw [e, Bool.and_false, Bool.false_and]
      obtain rfl : n = 0 := by rw [hn, if_neg (by simp)]
      have HS := Lib.hid (fun (w : World) xa cap f hX => steps_no xa 3 cap X h T f w hX (by omega) hk')
      clear hk hk' hv ho hn hG hX
      go_enter Try.func42, Try.ntmps42
      go_wp2_with (first | (go_at_call 78; refine (dampValid_any _ _ _ _ _ _ HV).mono ?_; rintro e0 w1 ⟨rfl, B0⟩; obtain ⟨p0, p1, p2, p3⟩ := HC.below B0; have HE := HD.trans (B0.mono HD.size); have HY := HX.below B0; have hz := HE.size) | (go_at_call 75; refine (HS.out _ _ _ _ (by exact HY)).mono ?_; rintro e0 w2 ⟨rfl, B2⟩))
      go_ret2
      exact OutRet.no (HE.trans (B2.mono hz))
/-- What is told of DampSteps. -/
def RetDampSteps (R0 : Nat → Nat) (m0 : Nat) (r1 : Bool) (w : World) (e : Ending) (w' : World) : Prop := ∃ (v0 : Value) (Y0 : Nat → Nat), e = .returned (.tuple #[v0, .bool r1]) ∧ w'.ownsRow w.heap.size 22 1 v0 m0 (rowOf Y0 m0) ∧ Like Y0 R0 m0 ∧ m0 ≤ 1048576 ∧ Below w.heap.size w w'
theorem bothDampSteps (N : Nat) (X : Nat → Nat) (hN : N ≤ 1048576) (r : Nat) (_ : (Lit.float .f32 r).wf = true) (o : Nat) (_ : (Lit.float .f32 o).wf = true) (p : Nat) (_ : (Lit.float .f32 p).wf = true) (d : Nat) (_ : (Lit.float .f32 d).wf = true) (h : Nat) (_ : (Lit.float .f32 h).wf = true) (T : Int) (_ : (Lit.int .i64 T).wf = true) :
    ∃ (R : Nat → Nat) (M : Nat) (ok : Bool), (∀ (xa : Option Addr) (c : Nat) (w : World), Rd w xa N X → Calls Try.prog 40 #[.slice xa N c, .float .f32 r, .float .f32 o, .float .f32 p, .float .f32 d, .float .f32 h, .int .i64 T] w (RetDampSteps R M ok w)) ∧
      ∀ (xa : Option Addr) (c : Nat) (w : World), Rd w xa N X → Calls Try.prog 42 #[.slice xa N c, .float .f32 r, .float .f32 o, .float .f32 p, .float .f32 d, .float .f32 h, .int .i64 T] w (RetDampSteps R M ok w) := by
  have conv : ∀ {R : Nat → Nat} {n : Nat} {ok : Bool} {w : World} {e : Ending} {w' : World}, n ≤ 1048576 → OutRet R n ok w e w' → RetDampSteps R n ok w e w' := fun hn ⟨v, X, he, ho, hL, hB⟩ => ⟨v, X, he, ho, hL, hn, hB⟩
  by_cases h3 : N = 3
  · subst h3
    obtain ⟨G, hG⟩ : ∃ G, G = stepR (dampG r o p d) h X := ⟨_, rfl⟩
    obtain ⟨ok, ho⟩ : ∃ ok, ok = (okDst 3 X r o p d h T && finL (G T.toNat) 3) := ⟨_, rfl⟩
    obtain ⟨n, hn⟩ : ∃ n, n = if ok = true then 3 else 0 := ⟨_, rfl⟩
    have hn6 : n ≤ 1048576 := by rw [hn]; split <;> omega
    refine ⟨G T.toNat, n, ok, fun xa c w hX => ?_, fun xa c w hX => (implDst_any xa c X r o p d h T w hX G hG n ok hn ho).mono fun e w' h => conv hn6 h⟩
    cases hk : okDst 3 X r o p d h T
    · have e : ok = false := by rw [ho, hk, Bool.false_and]
      have e2 : n = 0 := by rw [hn, e, if_neg (by simp)]
      rw [e, e2]
      exact (specDst_no xa 3 c X r o p d h T w hX (by omega) _ hk).mono fun e w' h => conv (by omega) h
    · obtain ⟨_, _, _, _, _, _, _, h8⟩ := okDst_at hk
      obtain ⟨t, rfl⟩ : ∃ t : Nat, T = (t : Int) := ⟨T.toNat, by have := inB_rng h8; omega⟩
      rw [Int.toNat_natCast] at ho ⊢
      rw [hk, Bool.true_and] at ho
      have hs := specDst_yes xa c X r o p d h t w hX hk G hG
      unfold LevRet at hs
      rw [← ho, ← hn] at hs
      exact hs.mono fun e w' h => conv hn6 h
  · have hk : okDst N X r o p d h T = false := by unfold okDst; rw [decide_eq_false h3]; rfl
    have hne : ((N : Int) != 3) = true := by simpa using (by omega : ¬ (N : Int) = 3)
    exact ⟨fun _ => 0, 0, false, fun xa c w hX => (specDst_no xa N c X r o p d h T w hX hN _ hk).mono fun e w' h => conv (by omega) h, fun xa c w hX => (implDst_len xa N c r o p d h T w hN _ hne).mono fun e w' h => conv (by omega) h⟩
set_option maxRecDepth 100000 in
set_option maxHeartbeats 6400000 in
theorem lawDampSteps_in (W : World) (x0 : Option Addr) (n0 c0 : Nat) (X0 : Nat → Nat) (hX0 : Rd W x0 n0 X0) (a1 : Nat) (_wf1 : (Lit.float .f32 a1).wf = true) (a2 : Nat) (_wf2 : (Lit.float .f32 a2).wf = true) (a3 : Nat) (_wf3 : (Lit.float .f32 a3).wf = true) (a4 : Nat) (_wf4 : (Lit.float .f32 a4).wf = true) (a5 : Nat) (_wf5 : (Lit.float .f32 a5).wf = true) (a6 : Int) (_wf6 : (Lit.int .i64 a6).wf = true) (h0 : n0 ≤ 1048576) (R0 : Nat → Nat) (m0 : Nat) (r1 : Bool) (HS : Hid (∀ (x0 : Option Addr) (c0 : Nat) (w : World), Rd w x0 n0 X0 → Calls Try.prog 40 #[.slice x0 n0 c0, .float .f32 a1, .float .f32 a2, .float .f32 a3, .float .f32 a4, .float .f32 a5, .int .i64 a6] w (RetDampSteps R0 m0 r1 w))) (HI : Hid (∀ (x0 : Option Addr) (c0 : Nat) (w : World), Rd w x0 n0 X0 → Calls Try.prog 42 #[.slice x0 n0 c0, .float .f32 a1, .float .f32 a2, .float .f32 a3, .float .f32 a4, .float .f32 a5, .int .i64 a6] w (RetDampSteps R0 m0 r1 w))) :
    Calls Try.prog 13 #[.slice x0 n0 c0, .float .f32 a1, .float .f32 a2, .float .f32 a3, .float .f32 a4, .float .f32 a5, .int .i64 a6] W fun e w' => e = .returned (.bool true) ∧ Below W.heap.size W w' := by
  have hcv := fun (R : Nat) (s t : Nat) => show canon .f64 (pick .f64 (fconv .f32 (pick .f32 R s) .f64) t) = canon .f64 (fconv .f32 R .f64) by rw [canon_pick, fconv_pick]
  have hcw := fun (R : Nat) (s t : Nat) => show canon .f64 (pick .f64 R s) = canon .f64 (pick .f64 R t) by rw [canon_pick, canon_pick]
  have HCV := Lib.hid hcv
  have HCW := Lib.hid hcw
  clear hcv hcw
  have hnb1 : (r1 != r1) = false := by simp
  have HB := Blw.refl W
  go_enter Try.func13, Try.ntmps13
  go_wp2_with fail
  refine (toF_any _ _ _ X0 _ (by exact hX0.below (Blw.out (by exact HB))) h0).mono ?_
  rintro e0 w0 ⟨rfl, O0, B0⟩
  replace HB := Blw.next (by exact HB) B0
  have C0 := O0
  clear O0 B0
  go_wp2_with fail
  refine (HS.out _ _ _ (rd_own (by exact C0))).mono ?_
  rintro e0 w1 ⟨vw0, Yw0, rfl, Ow0, Lw0, mw0, B0⟩
  clear C0
  replace HB := Blw.next (by exact HB) B0
  clear B0
  have Z0 := hX0.below HB.out
  obtain ⟨xw0, cw0, rfl, _, _, Rw0⟩ := rd_of_own Ow0
  clear Ow0
  have HL := Blw.refl w1
  have E0 := (Blw.out (by exact HL)).size
  go_wp2_with fail
  refine (toF_any _ _ _ X0 _ (by exact Z0.below (Blw.out (by exact HL))) h0).mono ?_
  rintro e0 w0 ⟨rfl, O0, B0⟩
  replace HL := Blw.next (by exact HL) B0
  have D0 := O0
  clear O0 B0
  have Qg0 := own_lt (by exact D0)
  have Eg := (Blw.out (by exact HL)).size
  go_wp2_with fail
  refine (HI.out _ _ _ (rd_own (by exact D0))).mono ?_
  rintro e0 w2 ⟨vg0, Yg0, rfl, Og0, Lg0, mg0, B0⟩
  replace D0 := own_below (by exact D0) B0
  replace HL := Blw.next (by exact HL) B0
  clear B0
  have O_0 := Og0
  obtain ⟨xg0, cg0, rfl, _, _, Rg0⟩ := rd_of_own O_0
  clear O_0
  go_wp2_with fail
  refine (eqF_any _ _ _ _ _ Yg0 Yw0 _ (by exact Rg0) (by exact Rw0.below (Blw.out (by exact HL))) mw0 (fun i hi => (Lg0 i hi).trans (Lw0 i hi).symm)).mono ?_
  rintro e0 w0 ⟨rfl, q, rfl⟩
  go_wp2_with fail
  refine (toF_any _ _ _ X0 _ (by exact Z0.below (Blw.out (by exact HL))) h0).mono ?_
  rintro e0 w0 ⟨rfl, O0, B0⟩
  replace D0 := own_below (by exact D0) B0
  replace Og0 := own_below (by exact Og0) B0
  replace HL := Blw.next (by exact HL) B0
  have K0 := O0
  clear O0 B0
  go_wp2_with fail
  refine (eqF_any _ _ _ _ _ X0 X0 _ (by exact rd_own (by exact D0)) (by exact rd_own (by exact K0)) h0 (fun _ _ => rfl)).mono ?_
  rintro e0 w0 ⟨rfl, q, rfl⟩
  clear K0
  go_wp2_with fail
  refine (markX_any _ _ n0 _ X0 _ _ (by exact D0) h0 (by omega) (by omega)).mono ?_
  rintro e0 w0 ⟨rfl, N0⟩
  replace Og0 := own_only (by exact Og0) (by exact Qg0) N0
  replace HL := Blw.only (by exact HL) E0 N0
  clear N0 D0
  have hk1 : (0 : Int) ≤ 1 + (n0 : Int) := by omega
  replace Rg0 := rd_own' (by exact Og0)
  go_wp2_with fail
  refine (eqF_any _ _ _ _ _ Yg0 Yw0 _ (by exact Rg0) (by exact Rw0.below (Blw.out (by exact HL))) mw0 (fun i hi => (Lg0 i hi).trans (Lw0 i hi).symm)).mono ?_
  rintro e0 w0 ⟨rfl, q, rfl⟩
  clear Rg0
  go_wp2_with fail
  refine (markF_any _ _ m0 Yg0 _ _ (by exact Og0) mg0 (by omega) (by omega)).mono ?_
  rintro e0 w0 ⟨rfl, Ok0, B0⟩
  replace HL := Blw.nextB (by exact HL) (B0.mono Eg)
  clear B0 Og0
  have hm1 : (0 : Int) ≤ 1 + (m0 : Int) := by omega
  go_wp2_with fail
  refine (heldF_any _ _ m0 _ _ (by exact Ok0) mg0 (by omega) (by omega)).mono ?_
  rintro e0 w0 ⟨rfl, rfl⟩
  go_wp2_with fail
  refine (toF_any _ _ _ X0 _ (by exact Z0.below (Blw.out (by exact HL))) h0).mono ?_
  rintro e0 w0 ⟨rfl, O0, B0⟩
  replace Ok0 := own_below (by exact Ok0) B0
  replace HL := Blw.next (by exact HL) B0
  have C0 := O0
  clear O0 B0
  go_wp2_with fail
  refine (HI.out _ _ _ (rd_own (by exact C0))).mono ?_
  rintro e0 w3 ⟨vh0, Yh0, rfl, Oh0, Lh0, mh0, B0⟩
  replace Ok0 := own_below (by exact Ok0) B0
  clear C0
  replace HL := Blw.next (by exact HL) B0
  clear B0
  obtain ⟨xh0, ch0, rfl, _, _, Rh0⟩ := rd_of_own Oh0
  clear Oh0
  go_wp2_with fail
  refine (eqF_any _ _ _ _ _ Yh0 Yw0 _ (by exact Rh0) (by exact Rw0.below (Blw.out (by exact HL))) mw0 (fun i hi => (Lh0 i hi).trans (Lw0 i hi).symm)).mono ?_
  rintro e0 w0 ⟨rfl, q, rfl⟩
  clear Rh0
  go_wp2_with fail
  refine (heldF_any _ _ m0 _ _ (by exact Ok0) mg0 (by omega) (by omega)).mono ?_
  rintro e0 w0 ⟨rfl, rfl⟩
  go_wp2
  go_ret
  exact ⟨rfl, (Blw.out (by exact HB)).trans ((Blw.out (by exact HL)).mono (Blw.out (by exact HB)).size)⟩
set_option maxHeartbeats 1600000 in
theorem lawDampSteps_any (W : World) (x0 : Option Addr) (n0 c0 : Nat) (X0 : Nat → Nat) (hX0 : Rd W x0 n0 X0) (a1 : Nat) (_wf1 : (Lit.float .f32 a1).wf = true) (a2 : Nat) (_wf2 : (Lit.float .f32 a2).wf = true) (a3 : Nat) (_wf3 : (Lit.float .f32 a3).wf = true) (a4 : Nat) (_wf4 : (Lit.float .f32 a4).wf = true) (a5 : Nat) (_wf5 : (Lit.float .f32 a5).wf = true) (a6 : Int) (_wf6 : (Lit.int .i64 a6).wf = true) :
    Calls Try.prog 13 #[.slice x0 n0 c0, .float .f32 a1, .float .f32 a2, .float .f32 a3, .float .f32 a4, .float .f32 a5, .int .i64 a6] W fun e w' => e = .returned (.bool true) ∧ Below W.heap.size W w' := by
  by_cases h0 : n0 ≤ 1048576
  · skip
    obtain ⟨R0, m0, r1, hs, hi⟩ := bothDampSteps n0 X0 h0 a1 _wf1 a2 _wf2 a3 _wf3 a4 _wf4 a5 _wf5 a6 _wf6
    exact lawDampSteps_in W x0 n0 c0 X0 hX0 a1 _wf1 a2 _wf2 a3 _wf3 a4 _wf4 a5 _wf5 a6 _wf6 h0 R0 m0 r1 (Lib.hid hs) (Lib.hid hi)
  · have h' : (1048576 : Int) < (n0 : Int) := by omega
    go_enter Try.func13, Try.ntmps13
    go_wp2
    go_ret
    exact ⟨rfl, (Blw.refl W).out⟩
set_option maxRecDepth 100000 in
theorem FnExactDampSteps_lifted (os : Os) (started : os.Started) (H : Type) (enc : TypeId × Value → H) :
    ReturnsInHanded {} Try.checked os 13 .any (Rows.fnExactDampStepsSpec.pre6 enc Try.prog Try.f13 Rows.fnExactDampStepsRow.domain false) (Rows.fnExactDampStepsSpec.post enc Try.prog Try.f13 false true false false) := by
  refine returnsInHanded_of_change (C := Try.checked) ownKnob_none started (by kernel_rfl) Try.func13
    (ChangeSpec.witness6 (enc := enc) (C := Try.checked) false ⟨#[], #[.slice none 0 0, .float .f32 0, .float .f32 0, .float .f32 0, .float .f32 0, .float .f32 0, .int .i64 0], []⟩ 8 (by kernel_rfl) (by kernel_rfl) (by kernel_rfl) (by kernel_rfl)) ?_
  intro W base args ds gs before hval0 hW _ _
  have hval : ∀ (j : Nat) t v, Try.f13.params[j]? = some t → args[j]? = some v → Value.okWide Try.prog W .any base t v := hval0
  have hW' := hW
  obtain ⟨p, q, hA0, hV, rfl, _, _⟩ := hW
  have hA : DataW.TrodAll enc Try.prog W 0 (fun _ => true) true Try.f13.params.toList args.toList ds p := hA0
  rw [Try.params13] at hA hval
  obtain ⟨v0, vs0, d0, ds0, p0, q0, e0, rfl, rfl, h0, r0⟩ := trodAll_cons hA
  obtain ⟨v1, vs1, d1, ds1, p1, q1, e1, rfl, rfl, h1, r1⟩ := trodAll_cons r0
  obtain ⟨v2, vs2, d2, ds2, p2, q2, e2, rfl, rfl, h2, r2⟩ := trodAll_cons r1
  obtain ⟨v3, vs3, d3, ds3, p3, q3, e3, rfl, rfl, h3, r3⟩ := trodAll_cons r2
  obtain ⟨v4, vs4, d4, ds4, p4, q4, e4, rfl, rfl, h4, r4⟩ := trodAll_cons r3
  obtain ⟨v5, vs5, d5, ds5, p5, q5, e5, rfl, rfl, h5, r5⟩ := trodAll_cons r4
  obtain ⟨v6, vs6, d6, ds6, p6, q6, e6, rfl, rfl, h6, r6⟩ := trodAll_cons r5
  obtain ⟨rfl, rfl, rfl⟩ := trodAll_nil r6
  subst e6
  subst e5
  subst e4
  subst e3
  subst e2
  subst e1
  obtain rfl : args = #[v0, v1, v2, v3, v4, v5, v6] := by cases args; simp_all
  obtain ⟨rfl, rfl⟩ := trodVars_none hV
  obtain ⟨x0, n0, c0, rfl⟩ := okWide_slice Try.underlying38 (hval 0 38 v0 rfl rfl)
  have k0 := h0
  obtain ⟨_, _, a0, w0, _⟩ := open_f32s Try.underlying38 Try.underlying22 cellsF h0
  have b0 : ∀ x ∈ p0, x.block < W.heap.size := fun x hx => by have := hW'.lt x (by simp [hx]); simpa using this
  obtain ⟨a1, rfl, rfl, rfl, w1⟩ := open_float Try.underlying22 (hval 1 22 v1 rfl rfl) h1
  obtain ⟨a2, rfl, rfl, rfl, w2⟩ := open_float Try.underlying22 (hval 2 22 v2 rfl rfl) h2
  obtain ⟨a3, rfl, rfl, rfl, w3⟩ := open_float Try.underlying22 (hval 3 22 v3 rfl rfl) h3
  obtain ⟨a4, rfl, rfl, rfl, w4⟩ := open_float Try.underlying22 (hval 4 22 v4 rfl rfl) h4
  obtain ⟨a5, rfl, rfl, rfl, w5⟩ := open_float Try.underlying22 (hval 5 22 v5 rfl rfl) h5
  obtain ⟨a6, rfl, rfl, rfl, w6⟩ := open_int Try.underlying2 (hval 6 2 v6 rfl rfl) h6
  clear hA0 hval0
  refine (lawDampSteps_any W x0 n0 c0 a0 w0 a1 w1 a2 w2 a3 w3 a4 w4 a5 w5 a6 w6).mono fun e W' ⟨he, hb⟩ => ?_
  subst he
  have hA2 := trodAll_cons_mk (enc := enc) (w := W') (base := 0) (spare := fun b => decide (b < W.heap.size)) (held := true) (Below.trod laidOut (by kernel_rfl) (of_decide_eq_true (by kernel_rfl)) k0 hb b0) (trodAll_cons_mk (enc := enc) (w := W') (base := 0) (spare := fun b => decide (b < W.heap.size)) (held := true) (shut_float Try.underlying22 w1) (trodAll_cons_mk (enc := enc) (w := W') (base := 0) (spare := fun b => decide (b < W.heap.size)) (held := true) (shut_float Try.underlying22 w2) (trodAll_cons_mk (enc := enc) (w := W') (base := 0) (spare := fun b => decide (b < W.heap.size)) (held := true) (shut_float Try.underlying22 w3) (trodAll_cons_mk (enc := enc) (w := W') (base := 0) (spare := fun b => decide (b < W.heap.size)) (held := true) (shut_float Try.underlying22 w4) (trodAll_cons_mk (enc := enc) (w := W') (base := 0) (spare := fun b => decide (b < W.heap.size)) (held := true) (shut_float Try.underlying22 w5) (trodAll_cons_mk (enc := enc) (w := W') (base := 0) (spare := fun b => decide (b < W.heap.size)) (held := true) (shut_int Try.underlying2 w6) (trodAll_mk0)))))))
  exact ⟨_, rfl, _, _, _, [], _, [], hW', trodAll_cons_mk (shut_bool Try.underlying4 _) trodAll_mk0, hA2, rfl, hb.frame _, fun h => by cases h⟩
theorem FnExactDampSteps_holds : Rows.FnExactDampStepsSaid :=
  OpenClaim.holds_of_wide 13 Try.f13 rfl rfl rfl rfl rfl rfl rfl ⟨rfl, rfl, rfl, rfl, rfl⟩ rfl rfl rfl rfl rfl (by kernel_rfl) Try.func13 (by kernel_rfl)
    (of_decide_eq_true (by kernel_rfl)) (by unfold Func.isWrapper; first | (rw [if_pos (by decide +kernel)]; kernel_rfl) | (rw [if_neg (by decide +kernel)]; exact ⟨rfl, rfl⟩))
    (fun os started H enc _ => FnExactDampSteps_lifted os started H enc)
end Go.Proofs.Ytebelikahpnobaa
