/- For any rows, numbers beside them, energies and rounds the program tells the state just where the model does, and the same; the rows are not changed: for all arguments. -/
import Derived.Test.YtdoaajmojfdjoabStaS
namespace Go.Proofs.Ytdoaajmojfdjoab
open Go Go.ChangeShapes Go.WideShapes Go.ChangeAt Go.RowKit

theorem staNo {R : Nat → Nat} {w w' : World} (hb : Below w.heap.size w w') : RetStateOf R 0 false w (.returned (.tuple #[.slice none 0 0, .bool false])) w' :=
  ⟨_, fun _ => 0, rfl, World.ownsRow_nil _ _ _ _, fun _ h => absurd h (Nat.not_lt_zero _), Nat.zero_le _, hb⟩
set_option maxHeartbeats 1600000 in
theorem specSta_no (xa : Option Addr) (N cap : Nat) (X : Nat → Nat) (b E : Nat) (r : Int) (w : World) (R : Nat → Nat) (hX : Rd w xa N X) (hN : N ≤ 1048576) (h : rowsOk X N b = false ∨ isFin .f32 E = false ∨ r < 1 ∨ 8 < r) :
    Calls Try.prog 30 #[.slice xa N cap, .float .f32 b, .float .f32 E, .int .i64 r] w (RetStateOf R 0 false w) := by
  cases h1 : rowsOk X N b
  · clear h
    go_enter Try.func30, Try.ntmps30
    go_wp2_with fail
    refine (l02Rows_any _ _ _ X b _ hX hN).mono ?_
    rintro e w' ⟨rfl, q, rfl⟩
    go_wp2
    go_ret2
    exact staNo (Below.drewN (Below.refl _ _) _)
  · cases h2 : isFin .f32 E
    · clear h
      go_enter Try.func30, Try.ntmps30
      go_wp2_with fail
      refine (l02Rows_any _ _ _ X b _ hX hN).mono ?_
      rintro e w' ⟨rfl, q, rfl⟩
      go_wp2_with (go_at_call 69; refine (l01Finite_any _ _).mono ?_; rintro e w' ⟨rfl, q, rfl⟩)
      go_ret2
      exact staNo (Below.drewN (Below.refl _ _) _)
    · have d1 : inB r 1 8 = false := by
        rcases h with h | h | h | h
        · rw [h1] at h; cases h
        · rw [h2] at h; cases h
        · exact inB_lo h
        · exact inB_hi h
      clear h
      go_enter Try.func30, Try.ntmps30
      go_wp2_with fail
      refine (l02Rows_any _ _ _ X b _ hX hN).mono ?_
      rintro e w' ⟨rfl, q, rfl⟩
      go_wp2_with (first | (go_at_call 69; refine (l01Finite_any _ _).mono ?_; rintro e w' ⟨rfl, q, rfl⟩) | (go_at_call 75; refine (l00In_any _ _ _ _).mono ?_; rintro e w' ⟨rfl, rfl⟩))
      go_ret2
      exact staNo (Below.drewN (Below.refl _ _) _)
set_option maxHeartbeats 1600000 in
theorem implSta_no (xa : Option Addr) (N cap : Nat) (X : Nat → Nat) (b E : Nat) (r : Int) (w : World) (R : Nat → Nat) (hX : Rd w xa N X) (hN : N ≤ 1048576) (h : rowsOk X N b = false ∨ isFin .f32 E = false ∨ r < 1 ∨ 8 < r) :
    Calls Try.prog 31 #[.slice xa N cap, .float .f32 b, .float .f32 E, .int .i64 r] w (RetStateOf R 0 false w) := by
  cases h1 : rowsOk X N b
  · clear h
    go_enter Try.func31, Try.ntmps31
    go_wp2_with fail
    refine (validRows_any _ _ _ X b _ hX hN).mono ?_
    rintro e w' ⟨rfl, q, rfl⟩
    go_wp2
    go_ret2
    exact staNo (Below.drewN (Below.refl _ _) _)
  · cases h2 : isFin .f32 E
    · clear h
      go_enter Try.func31, Try.ntmps31
      go_wp2_with fail
      refine (validRows_any _ _ _ X b _ hX hN).mono ?_
      rintro e w' ⟨rfl, q, rfl⟩
      go_wp2_with (go_at_call 71; refine (IsFinite_any _ _).mono ?_; rintro e w' ⟨rfl, q, rfl⟩)
      go_ret2
      exact staNo (Below.drewN (Below.refl _ _) _)
    · by_cases h3 : r < 1
      · have d1 : decide (r < 1) = true := decide_eq_true h3
        clear h
        go_enter Try.func31, Try.ntmps31
        go_wp2_with fail
        refine (validRows_any _ _ _ X b _ hX hN).mono ?_
        rintro e w' ⟨rfl, q, rfl⟩
        go_wp2_with (go_at_call 71; refine (IsFinite_any _ _).mono ?_; rintro e w' ⟨rfl, q, rfl⟩)
        go_ret2
        exact staNo (Below.drewN (Below.refl _ _) _)
      · have h4 : 8 < r := by
          rcases h with h | h | h | h
          · rw [h1] at h; cases h
          · rw [h2] at h; cases h
          · exact absurd h h3
          · exact h
        have d1 : decide (r < 1) = false := decide_eq_false h3
        have d2 : decide (8 < r) = true := decide_eq_true h4
        clear h
        go_enter Try.func31, Try.ntmps31
        go_wp2_with fail
        refine (validRows_any _ _ _ X b _ hX hN).mono ?_
        rintro e w' ⟨rfl, q, rfl⟩
        go_wp2_with (go_at_call 71; refine (IsFinite_any _ _).mono ?_; rintro e w' ⟨rfl, q, rfl⟩)
        go_ret2
        exact staNo (Below.drewN (Below.refl _ _) _)
theorem bothStateOf (N : Nat) (X : Nat → Nat) (hN : N ≤ 1048576) (b : Nat) (_ : (Lit.float .f32 b).wf = true) (E : Nat) (_ : (Lit.float .f32 E).wf = true) (r : Int) (_ : (Lit.int .i64 r).wf = true) :
    ∃ (R : Nat → Nat) (M : Nat) (ok : Bool), (∀ (xa : Option Addr) (c : Nat) (w : World), Rd w xa N X → Calls Try.prog 30 #[.slice xa N c, .float .f32 b, .float .f32 E, .int .i64 r] w (RetStateOf R M ok w)) ∧
      ∀ (xa : Option Addr) (c : Nat) (w : World), Rd w xa N X → Calls Try.prog 31 #[.slice xa N c, .float .f32 b, .float .f32 E, .int .i64 r] w (RetStateOf R M ok w) := by
  by_cases h : rowsOk X N b = true ∧ isFin .f32 E = true ∧ 1 ≤ r ∧ r ≤ 8
  · obtain ⟨h1, h2, h3, h4⟩ := h
    obtain ⟨t, rfl⟩ : ∃ t : Nat, r = (t : Int) := ⟨r.toNat, by omega⟩
    exact ⟨_, _, _, fun xa c w hX => specSta_yes xa N c X b E t w hX h1 h2 (by omega) (by omega) _ _ _ rfl rfl rfl, fun xa c w hX => implSta_yes xa N c X b E t w hX h1 h2 (by omega) (by omega) _ _ _ rfl rfl rfl⟩
  · have h' : rowsOk X N b = false ∨ isFin .f32 E = false ∨ r < 1 ∨ 8 < r := by
      cases h1 : rowsOk X N b
      · exact .inl rfl
      · cases h2 : isFin .f32 E
        · exact .inr (.inl rfl)
        · by_cases h3 : r < 1
          · exact .inr (.inr (.inl h3))
          · by_cases h4 : 8 < r
            · exact .inr (.inr (.inr h4))
            · exact absurd ⟨h1, h2, by omega, by omega⟩ h
    exact ⟨fun _ => 0, 0, false, fun xa c w hX => specSta_no xa N c X b E r w _ hX hN h', fun xa c w hX => implSta_no xa N c X b E r w _ hX hN h'⟩
set_option maxRecDepth 100000 in
set_option maxHeartbeats 6400000 in
theorem lawStateOf_in (W : World) (x0 : Option Addr) (n0 c0 : Nat) (X0 : Nat → Nat) (hX0 : Rd W x0 n0 X0) (a1 : Nat) (_wf1 : (Lit.float .f32 a1).wf = true) (a2 : Nat) (_wf2 : (Lit.float .f32 a2).wf = true) (a3 : Int) (_wf3 : (Lit.int .i64 a3).wf = true) (h0 : n0 ≤ 1048576) (R0 : Nat → Nat) (m0 : Nat) (r1 : Bool) (HS : Hid (∀ (x0 : Option Addr) (c0 : Nat) (w : World), Rd w x0 n0 X0 → Calls Try.prog 30 #[.slice x0 n0 c0, .float .f32 a1, .float .f32 a2, .int .i64 a3] w (RetStateOf R0 m0 r1 w))) (HI : Hid (∀ (x0 : Option Addr) (c0 : Nat) (w : World), Rd w x0 n0 X0 → Calls Try.prog 31 #[.slice x0 n0 c0, .float .f32 a1, .float .f32 a2, .int .i64 a3] w (RetStateOf R0 m0 r1 w))) :
    Calls Try.prog 8 #[.slice x0 n0 c0, .float .f32 a1, .float .f32 a2, .int .i64 a3] W fun e w' => e = .returned (.bool true) ∧ Below W.heap.size W w' := by
  have hcv := fun (R : Nat) (s t : Nat) => show canon .f64 (pick .f64 (fconv .f32 (pick .f32 R s) .f64) t) = canon .f64 (fconv .f32 R .f64) by rw [canon_pick, fconv_pick]
  have hcw := fun (R : Nat) (s t : Nat) => show canon .f64 (pick .f64 R s) = canon .f64 (pick .f64 R t) by rw [canon_pick, canon_pick]
  have HCV := Lib.hid hcv
  have HCW := Lib.hid hcw
  clear hcv hcw
  have hnb1 : (r1 != r1) = false := by simp
  have HB := Blw.refl W
  go_enter Try.func8, Try.ntmps8
  go_wp2_with fail
  refine (toF_any _ _ _ X0 _ (by exact hX0.below (Blw.out (by exact HB))) h0).mono ?_
  rintro e0 w0 ⟨rfl, O0, B0⟩
  replace HB := Blw.next (by exact HB) B0
  have C0 := O0
  clear O0 B0
  go_wp2_with fail
  refine (HS.out _ _ _ (rd_own (by exact C0))).mono ?_
  rintro e0 w1 ⟨vw0, Yw0, rfl, Ow0, Lw0, mw0, B0⟩
  clear C0
  replace HB := Blw.next (by exact HB) B0
  clear B0
  have Z0 := hX0.below HB.out
  obtain ⟨xw0, cw0, rfl, _, _, Rw0⟩ := rd_of_own Ow0
  clear Ow0
  have HL := Blw.refl w1
  have E0 := (Blw.out (by exact HL)).size
  go_wp2_with fail
  refine (toF_any _ _ _ X0 _ (by exact Z0.below (Blw.out (by exact HL))) h0).mono ?_
  rintro e0 w0 ⟨rfl, O0, B0⟩
  replace HL := Blw.next (by exact HL) B0
  have D0 := O0
  clear O0 B0
  have Qg0 := own_lt (by exact D0)
  have Eg := (Blw.out (by exact HL)).size
  go_wp2_with fail
  refine (HI.out _ _ _ (rd_own (by exact D0))).mono ?_
  rintro e0 w2 ⟨vg0, Yg0, rfl, Og0, Lg0, mg0, B0⟩
  replace D0 := own_below (by exact D0) B0
  replace HL := Blw.next (by exact HL) B0
  clear B0
  have O_0 := Og0
  obtain ⟨xg0, cg0, rfl, _, _, Rg0⟩ := rd_of_own O_0
  clear O_0
  go_wp2_with fail
  refine (eqF_any _ _ _ _ _ Yg0 Yw0 _ (by exact Rg0) (by exact Rw0.below (Blw.out (by exact HL))) mw0 (fun i hi => (Lg0 i hi).trans (Lw0 i hi).symm)).mono ?_
  rintro e0 w0 ⟨rfl, q, rfl⟩
  go_wp2_with fail
  refine (toF_any _ _ _ X0 _ (by exact Z0.below (Blw.out (by exact HL))) h0).mono ?_
  rintro e0 w0 ⟨rfl, O0, B0⟩
  replace D0 := own_below (by exact D0) B0
  replace Og0 := own_below (by exact Og0) B0
  replace HL := Blw.next (by exact HL) B0
  have K0 := O0
  clear O0 B0
  go_wp2_with fail
  refine (eqF_any _ _ _ _ _ X0 X0 _ (by exact rd_own (by exact D0)) (by exact rd_own (by exact K0)) h0 (fun _ _ => rfl)).mono ?_
  rintro e0 w0 ⟨rfl, q, rfl⟩
  clear K0
  go_wp2_with fail
  refine (markX_any _ _ n0 _ X0 _ _ (by exact D0) h0 (by omega) (by omega)).mono ?_
  rintro e0 w0 ⟨rfl, N0⟩
  replace Og0 := own_only (by exact Og0) (by exact Qg0) N0
  replace HL := Blw.only (by exact HL) E0 N0
  clear N0 D0
  have hk1 : (0 : Int) ≤ 1 + (n0 : Int) := by omega
  replace Rg0 := rd_own' (by exact Og0)
  go_wp2_with fail
  refine (eqF_any _ _ _ _ _ Yg0 Yw0 _ (by exact Rg0) (by exact Rw0.below (Blw.out (by exact HL))) mw0 (fun i hi => (Lg0 i hi).trans (Lw0 i hi).symm)).mono ?_
  rintro e0 w0 ⟨rfl, q, rfl⟩
  clear Rg0
  go_wp2_with fail
  refine (markF_any _ _ m0 Yg0 _ _ (by exact Og0) mg0 (by omega) (by omega)).mono ?_
  rintro e0 w0 ⟨rfl, Ok0, B0⟩
  replace HL := Blw.nextB (by exact HL) (B0.mono Eg)
  clear B0 Og0
  have hm1 : (0 : Int) ≤ 1 + (m0 : Int) := by omega
  go_wp2_with fail
  refine (heldF_any _ _ m0 _ _ (by exact Ok0) mg0 (by omega) (by omega)).mono ?_
  rintro e0 w0 ⟨rfl, rfl⟩
  go_wp2_with fail
  refine (toF_any _ _ _ X0 _ (by exact Z0.below (Blw.out (by exact HL))) h0).mono ?_
  rintro e0 w0 ⟨rfl, O0, B0⟩
  replace Ok0 := own_below (by exact Ok0) B0
  replace HL := Blw.next (by exact HL) B0
  have C0 := O0
  clear O0 B0
  go_wp2_with fail
  refine (HI.out _ _ _ (rd_own (by exact C0))).mono ?_
  rintro e0 w3 ⟨vh0, Yh0, rfl, Oh0, Lh0, mh0, B0⟩
  replace Ok0 := own_below (by exact Ok0) B0
  clear C0
  replace HL := Blw.next (by exact HL) B0
  clear B0
  obtain ⟨xh0, ch0, rfl, _, _, Rh0⟩ := rd_of_own Oh0
  clear Oh0
  go_wp2_with fail
  refine (eqF_any _ _ _ _ _ Yh0 Yw0 _ (by exact Rh0) (by exact Rw0.below (Blw.out (by exact HL))) mw0 (fun i hi => (Lh0 i hi).trans (Lw0 i hi).symm)).mono ?_
  rintro e0 w0 ⟨rfl, q, rfl⟩
  clear Rh0
  go_wp2_with fail
  refine (heldF_any _ _ m0 _ _ (by exact Ok0) mg0 (by omega) (by omega)).mono ?_
  rintro e0 w0 ⟨rfl, rfl⟩
  go_wp2
  go_ret
  exact ⟨rfl, (Blw.out (by exact HB)).trans ((Blw.out (by exact HL)).mono (Blw.out (by exact HB)).size)⟩
set_option maxHeartbeats 1600000 in
theorem lawStateOf_any (W : World) (x0 : Option Addr) (n0 c0 : Nat) (X0 : Nat → Nat) (hX0 : Rd W x0 n0 X0) (a1 : Nat) (_wf1 : (Lit.float .f32 a1).wf = true) (a2 : Nat) (_wf2 : (Lit.float .f32 a2).wf = true) (a3 : Int) (_wf3 : (Lit.int .i64 a3).wf = true) :
    Calls Try.prog 8 #[.slice x0 n0 c0, .float .f32 a1, .float .f32 a2, .int .i64 a3] W fun e w' => e = .returned (.bool true) ∧ Below W.heap.size W w' := by
  by_cases h0 : n0 ≤ 1048576
  · skip
    obtain ⟨R0, m0, r1, hs, hi⟩ := bothStateOf n0 X0 h0 a1 _wf1 a2 _wf2 a3 _wf3
    exact lawStateOf_in W x0 n0 c0 X0 hX0 a1 _wf1 a2 _wf2 a3 _wf3 h0 R0 m0 r1 (Lib.hid hs) (Lib.hid hi)
  · have h' : (1048576 : Int) < (n0 : Int) := by omega
    go_enter Try.func8, Try.ntmps8
    go_wp2
    go_ret
    exact ⟨rfl, (Blw.refl W).out⟩
set_option maxRecDepth 100000 in
theorem FnExactStateOf_lifted (os : Os) (started : os.Started) (H : Type) (enc : TypeId × Value → H) :
    ReturnsInHanded {} Try.checked os 8 .any (Rows.fnExactStateOfSpec.pre6 enc Try.prog Try.f8 Rows.fnExactStateOfRow.domain false) (Rows.fnExactStateOfSpec.post enc Try.prog Try.f8 false true false false) := by
  refine returnsInHanded_of_change (C := Try.checked) ownKnob_none started (by kernel_rfl) Try.func8
    (ChangeSpec.witness6 (enc := enc) (C := Try.checked) false ⟨#[], #[.slice none 0 0, .float .f32 0, .float .f32 0, .int .i64 0], []⟩ 8 (by kernel_rfl) (by kernel_rfl) (by kernel_rfl) (by kernel_rfl)) ?_
  intro W base args ds gs before hval0 hW _ _
  have hval : ∀ (j : Nat) t v, Try.f8.params[j]? = some t → args[j]? = some v → Value.okWide Try.prog W .any base t v := hval0
  have hW' := hW
  obtain ⟨p, q, hA0, hV, rfl, _, _⟩ := hW
  have hA : DataW.TrodAll enc Try.prog W 0 (fun _ => true) true Try.f8.params.toList args.toList ds p := hA0
  rw [Try.params8] at hA hval
  obtain ⟨v0, v1, v2, v3, d0, d1, d2, d3, p0, p1, p2, p3, rfl, rfl, rfl, h0, h1, h2, h3⟩ := trodAll_four hA
  obtain ⟨rfl, rfl⟩ := trodVars_none hV
  obtain ⟨x0, n0, c0, rfl⟩ := okWide_slice Try.underlying22 (hval 0 22 v0 rfl rfl)
  have k0 := h0
  obtain ⟨_, _, a0, w0, _⟩ := open_f32s Try.underlying22 Try.underlying23 cellsF h0
  have b0 : ∀ x ∈ p0, x.block < W.heap.size := fun x hx => by have := hW'.lt x (by simp [hx]); simpa using this
  obtain ⟨a1, rfl, rfl, rfl, w1⟩ := open_float Try.underlying23 (hval 1 23 v1 rfl rfl) h1
  obtain ⟨a2, rfl, rfl, rfl, w2⟩ := open_float Try.underlying23 (hval 2 23 v2 rfl rfl) h2
  obtain ⟨a3, rfl, rfl, rfl, w3⟩ := open_int Try.underlying2 (hval 3 2 v3 rfl rfl) h3
  clear hA0 hval0
  refine (lawStateOf_any W x0 n0 c0 a0 w0 a1 w1 a2 w2 a3 w3).mono fun e W' ⟨he, hb⟩ => ?_
  subst he
  have hA2 := trodAll_mk4 (enc := enc) (w := W') (base := 0) (spare := fun b => decide (b < W.heap.size)) (held := true) (Below.trod laidOut (by kernel_rfl) (of_decide_eq_true (by kernel_rfl)) k0 hb b0) (shut_float Try.underlying23 w1) (shut_float Try.underlying23 w2) (shut_int Try.underlying2 w3)
  exact ⟨_, rfl, _, _, _, [], _, [], hW', trodAll_cons_mk (shut_bool Try.underlying4 _) trodAll_mk0, hA2, rfl, hb.frame _, fun h => by cases h⟩
theorem FnExactStateOf_holds : Rows.FnExactStateOfSaid :=
  OpenClaim.holds_of_wide 8 Try.f8 rfl rfl rfl rfl rfl rfl rfl ⟨rfl, rfl, rfl, rfl, rfl⟩ rfl rfl rfl rfl rfl (by kernel_rfl) Try.func8 (by kernel_rfl)
    (of_decide_eq_true (by kernel_rfl)) (by unfold Func.isWrapper; first | (rw [if_pos (by decide +kernel)]; kernel_rfl) | (rw [if_neg (by decide +kernel)]; exact ⟨rfl, rfl⟩))
    (fun os started H enc _ => FnExactStateOf_lifted os started H enc)
end Go.Proofs.Ytdoaajmojfdjoab
