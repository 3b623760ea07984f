/- For all turns and parts the program tells the number of a share just as the model does. -/
import Derived.Test.YtffhnkhjfggooabDoorDoor
import Derived.Test.YtffhnkhjfggooabDoorRootC
import Derived.Test.YtffhnkhjfggooabDoorCards
import Derived.Test.YtffhnkhjfggooabDoorTie
import Derived.SevenTiedAt
namespace Go.Proofs.YtffhnkhjfggooabDoor
open Go Go.ChangeShapes Go.WideShapes Go.ChangeAt Go.RowKit

def RetN (r : Nat) (ok : Bool) (w : World) (e : Ending) (w' : World) : Prop := ∃ s, e = .returned (.tuple #[.float .f32 (pick .f32 r s), .bool ok]) ∧ Below w.heap.size w w'
def jnR (u v t : Int) : Nat := fbin .mul .f32 (floatOfInt .f32 u) (rootT (fbin .quo .f32 (floatOfInt .f32 v) (floatOfInt .f32 t)))
theorem zero_pick : (0 : Nat) = pick .f32 0 0 := by rw [pick_num (by decide +kernel)]
theorem specN_no (a x b y c : Int) (w : World) (h : canB a x b y c = false) : Calls Tryd.prog 18 #[.int .i64 a, .int .i64 x, .int .i64 b, .int .i64 y, .int .i64 c] w (RetN 0 false w) := by
  go_enter Tryd.func18, Tryd.ntmps18
  go_wp2_with (first | (go_at_call 34; refine (l03Can_any _ _ _ _ _ _).mono ?_; rintro e w' ⟨rfl, rfl⟩))
  go_ret2
  exact ⟨0, by rw [← zero_pick]; rfl, Below.refl _ _⟩
set_option maxHeartbeats 1600000 in
theorem specN_yes (a x b y c : Int) (w : World) (h : canB a x b y c = true) (R1 R2 R3 : Int) (h1 : R1 = sqG (expJ a x b y c) (sumAll a x b y c)) (h2 : R2 = sqU (expJ a x b y c) (sumAll a x b y c)) (h3 : R3 = sqD (expJ a x b y c) (sumAll a x b y c)) :
    Calls Tryd.prog 18 #[.int .i64 a, .int .i64 x, .int .i64 b, .int .i64 y, .int .i64 c] w (RetN (jnR R1 R2 R3) true w) := by
  have hj := canAt h
  obtain ⟨e1, e2, e3, q1, q2, q3⟩ := share_eq hj
  rw [← h1] at q1
  rw [← h2] at q2
  rw [← h3] at q3
  clear h1 h2 h3
  have hp := fun op => fbin_pick_l op .f32
  have hq := fun op => fbin_pick_r op .f32
  have hrp := rootT_pick
  obtain ⟨Z, hZ⟩ : ∃ Z, Z = jnR R1 R2 R3 := ⟨_, rfl⟩
  rw [← hZ]
  have HZ := Lib.hid hZ
  clear hZ
  go_enter Tryd.func18, Tryd.ntmps18
  go_wp2_with (first | ((with_reducible refine wpL_fbin ?_); refine ⟨_, _, _, rfl, rfl, rfl, fun s n => ?_⟩) | (go_at_call 34; refine (l03Can_any _ _ _ _ _ _).mono ?_; rintro e w' ⟨rfl, rfl⟩) | (go_at_call 35; refine (l03Join_any a x b y c _ hj e1 e2).mono ?_; rintro e w' ⟨rfl, hb⟩; rw [q1, q2, q3]) | (go_at_call 44; refine (l01Sqrt_any _ _).mono ?_; rintro e w' ⟨s', m', rfl, rfl⟩))
  go_ret2
  exact ⟨_, by rw [HZ.out]; rfl, Below.drewN hb _⟩
theorem implN_no (a x b y c : Int) (w : World) (h : canB a x b y c = false) : Calls Tryd.prog 19 #[.int .i64 a, .int .i64 x, .int .i64 b, .int .i64 y, .int .i64 c] w (RetN 0 false w) := by
  go_enter Tryd.func19, Tryd.ntmps19
  go_wp2_with fail
  refine (implJ_no a x b y c _ h).mono ?_
  rintro e w2 ⟨_, hn2, hb2⟩
  obtain rfl := hn2 h
  clear hn2
  go_wp2
  go_ret2
  exact ⟨0, by rw [← zero_pick]; rfl, hb2⟩
set_option maxHeartbeats 1600000 in
theorem implN_yes (a x b y c : Int) (w : World) (hG : Glob w) (h : canB a x b y c = true) (R1 R2 R3 : Int) (h1 : R1 = sqG (expJ a x b y c) (sumAll a x b y c)) (h2 : R2 = sqU (expJ a x b y c) (sumAll a x b y c)) (h3 : R3 = sqD (expJ a x b y c) (sumAll a x b y c)) :
    Calls Tryd.prog 19 #[.int .i64 a, .int .i64 x, .int .i64 b, .int .i64 y, .int .i64 c] w (RetN (jnR R1 R2 R3) true w) := by
  have hp := fun op => fbin_pick_l op .f32
  have hq := fun op => fbin_pick_r op .f32
  have hrp := rootT_pick
  obtain ⟨Z, hZ⟩ : ∃ Z, Z = jnR R1 R2 R3 := ⟨_, rfl⟩
  rw [← hZ]
  have HZ := Lib.hid hZ
  clear hZ
  go_enter Tryd.func19, Tryd.ntmps19
  go_wp2_with fail
  refine (implJ_yes a x b y c _ hG h).mono ?_
  rintro e w2 ⟨hy2, _, hb2⟩
  obtain rfl := hy2 h
  clear hy2
  rw [← h1, ← h2, ← h3]
  clear h1 h2 h3
  go_wp2_with (first | ((with_reducible refine wpL_fbin ?_); refine ⟨_, _, _, rfl, rfl, rfl, fun s n => ?_⟩) | (go_at_call 45; refine (RootNumber_any _ _).mono ?_; rintro e w' ⟨s', m', rfl, rfl⟩))
  go_ret2
  exact ⟨_, by rw [HZ.out]; rfl, Below.drewN hb2 _⟩
theorem bothN (a x b y c : Int) : ∃ (r : Nat) (ok : Bool), (∀ w, Calls Tryd.prog 18 #[.int .i64 a, .int .i64 x, .int .i64 b, .int .i64 y, .int .i64 c] w (RetN r ok w)) ∧
    ∀ w, Glob w → Calls Tryd.prog 19 #[.int .i64 a, .int .i64 x, .int .i64 b, .int .i64 y, .int .i64 c] w (RetN r ok w) := by
  cases h : canB a x b y c
  · exact ⟨0, false, fun w => specN_no a x b y c w h, fun w _ => implN_no a x b y c w h⟩
  · exact ⟨_, true, fun w => specN_yes a x b y c w h _ _ _ rfl rfl rfl, fun w hG => implN_yes a x b y c w hG h _ _ _ rfl rfl rfl⟩
theorem lawJoinNumber_any (W : World) (hG : Glob W) (a x b y c : Int) :
    Calls Tryd.prog 5 #[.int .i64 a, .int .i64 x, .int .i64 b, .int .i64 y, .int .i64 c] W fun e w' => e = .returned (.bool true) ∧ Below W.heap.size W w' := by
  have hcv := fun (R : Nat) (s t : Nat) => show canon .f64 (pick .f64 (fconv .f32 (pick .f32 R s) .f64) t) = canon .f64 (fconv .f32 R .f64) by rw [canon_pick, fconv_pick]
  have HCV := Lib.hid hcv
  clear hcv
  obtain ⟨r, ok, hs, hi⟩ := bothN a x b y c
  have HS := Lib.hid hs
  have HI := Lib.hid hi
  have hok : (ok != ok) = false := by simp
  clear hs hi
  go_enter Tryd.func5, Tryd.ntmps5
  go_wp2_with fail
  refine (HS.out _).mono ?_
  rintro e w1 ⟨s1, rfl, hb1⟩
  go_wp2_with fail
  refine (HI.out _ (hG.below hb1)).mono ?_
  rintro e w2 ⟨s2, rfl, hb2⟩
  go_wp2_with ((with_reducible refine wpL_fconv ?_); refine ⟨_, _, _, rfl, Option.isSome_iff_exists.2 ⟨_, Tryd.underlying31⟩, Tryd.underlying35, FloatKind.noConfusion, convOk_widen _, fun s n => ?_⟩)
  refine (sameFloat_any _ _ _ ((HCV.out _ _ _).trans (HCV.out _ _ _).symm)).mono ?_
  rintro e w3 ⟨rfl, q, rfl⟩
  have hB := hb1.trans (hb2.mono hb1.size)
  go_wp2
  go_ret
  exact ⟨rfl, Below.drewN hB _⟩
set_option maxRecDepth 100000 in
theorem FnExactJoinNumber_lifted (os : Os) (started : os.Started) (H : Type) (enc : TypeId × Value → H) :
    ReturnsInHanded {} Tryd.checked os 5 .any (fun w args => (Rows.fnExactJoinNumberSpec.pre enc Tryd.prog Tryd.f5 [] false w args ∧ laidMetH Tryd.prog laidL w) ∧ sizedMet enc Tryd.prog Tryd.f5 (OpenSpec.ofChange Rows.fnExactJoinNumberSpec) false w args)
      (Rows.fnExactJoinNumberSpec.post enc Tryd.prog Tryd.f5 false true false false) := by
  refine returnsInHanded_of_change_and (C := Tryd.checked) (X := fun w _ => laidMetH Tryd.prog laidL w) (fun _ _ _ hh h => h.of_heap hh) ownKnob_none started (by kernel_rfl) Tryd.func5
    (ChangeSpec.witness_shaped (enc := enc) (C := Tryd.checked) (os := os) (X := fun w _ => laidMetH Tryd.prog laidL w) false (World.doorLaid Tryd.prog 400 os) #[.int .i64 0, .int .i64 0, .int .i64 0, .int .i64 0, .int .i64 0] 8 rfl (World.shaped_of_RefB (by kernel_rfl) (by kernel_rfl)) (by kernel_rfl) (by kernel_rfl) (by kernel_rfl) (door_met os _)) ?_
  intro W base args ds gs before hval0 hW _ _ hL _
  have hval : ∀ (j : Nat) t v, Tryd.f5.params[j]? = some t → args[j]? = some v → Value.okWide Tryd.prog W .any base t v := hval0
  have hW' := hW
  obtain ⟨p, q, hA0, hV0, rfl, _, _⟩ := hW
  have hA : DataW.TrodAll enc Tryd.prog W 0 (fun _ => true) true Tryd.f5.params.toList args.toList ds p := hA0
  have hV : DataW.TrodVars enc Tryd.prog W (fun _ => true) varsL gs q := hV0
  rw [Tryd.params5] at hA hval
  have hv2 := vars_of_laid hL
  obtain rfl := vars_data enc hv2 hV
  obtain ⟨v0, vs0, d0, ds0, p0, q0, e0, rfl, rfl, h0, r0⟩ := trodAll_cons hA
  obtain ⟨v1, vs1, d1, ds1, p1, q1, e1, rfl, rfl, h1, r1⟩ := trodAll_cons r0
  obtain ⟨v2, vs2, d2, ds2, p2, q2, e2, rfl, rfl, h2, r2⟩ := trodAll_cons r1
  obtain ⟨v3, vs3, d3, ds3, p3, q3, e3, rfl, rfl, h3, r3⟩ := trodAll_cons r2
  obtain ⟨v4, vs4, d4, ds4, p4, q4, e4, rfl, rfl, h4, r4⟩ := trodAll_cons r3
  obtain ⟨rfl, rfl, rfl⟩ := trodAll_nil r4
  subst e4
  subst e3
  subst e2
  subst e1
  obtain rfl : args = #[v0, v1, v2, v3, v4] := by cases args; simp_all
  obtain ⟨a0, rfl, rfl, rfl, w0⟩ := open_int Tryd.underlying2 (hval 0 2 v0 rfl rfl) h0
  obtain ⟨a1, rfl, rfl, rfl, w1⟩ := open_int Tryd.underlying2 (hval 1 2 v1 rfl rfl) h1
  obtain ⟨a2, rfl, rfl, rfl, w2⟩ := open_int Tryd.underlying2 (hval 2 2 v2 rfl rfl) h2
  obtain ⟨a3, rfl, rfl, rfl, w3⟩ := open_int Tryd.underlying2 (hval 3 2 v3 rfl rfl) h3
  obtain ⟨a4, rfl, rfl, rfl, w4⟩ := open_int Tryd.underlying2 (hval 4 2 v4 rfl rfl) h4
  clear hA0 hV0 hval0
  refine (lawJoinNumber_any W (glob_of_vars hv2) a0 a1 a2 a3 a4).mono fun e W' ⟨he, hb⟩ => ?_
  subst he
  have hA2 := trodAll_cons_mk (enc := enc) (w := W') (base := 0) (spare := fun b => decide (b < W.heap.size)) (held := true) (shut_int Tryd.underlying2 w0) (trodAll_cons_mk (enc := enc) (w := W') (base := 0) (spare := fun b => decide (b < W.heap.size)) (held := true) (shut_int Tryd.underlying2 w1) (trodAll_cons_mk (enc := enc) (w := W') (base := 0) (spare := fun b => decide (b < W.heap.size)) (held := true) (shut_int Tryd.underlying2 w2) (trodAll_cons_mk (enc := enc) (w := W') (base := 0) (spare := fun b => decide (b < W.heap.size)) (held := true) (shut_int Tryd.underlying2 w3) (trodAll_cons_mk (enc := enc) (w := W') (base := 0) (spare := fun b => decide (b < W.heap.size)) (held := true) (shut_int Tryd.underlying2 w4) (trodAll_mk0)))))
  have hv3 := And.intro (var_below gP hv2.1 hb) (var_below gN hv2.2 hb)
  obtain ⟨qs, hq⟩ := trodVarsL enc hv3 (fun b => decide (b < W.heap.size))
  exact ⟨_, rfl, _, _, _, [], _, qs, hW', trodAll_cons_mk (shut_bool Tryd.underlying4 _) trodAll_mk0, hA2, hq, hb.frame _, fun h => by cases h⟩
theorem FnExactJoinNumber_holds : Rows.FnExactJoinNumberSaid :=
  OpenClaim.holds_of_wide 5 Tryd.f5 rfl rfl rfl rfl rfl rfl rfl ⟨rfl, rfl, rfl, rfl, rfl⟩ rfl rfl rfl rfl rfl (by kernel_rfl) Tryd.func5 (by kernel_rfl)
    (of_decide_eq_true (by kernel_rfl)) (by unfold Func.isWrapper; first | (rw [if_pos (by decide +kernel)]; kernel_rfl) | (rw [if_neg (by decide +kernel)]; exact ⟨rfl, rfl⟩))
    (fun os started H enc _ => FnExactJoinNumber_lifted os started H enc)
theorem FnExactJoinNumberCard_holds : Rows.FnExactJoinNumberCardSaid :=
  Claim7.holds_tied_plain_at .later [] [.data, .data] true (true, "82a971a80951f1e1f370a5d099a44176e4ce2428fe6b1224963d045304a3b7df") false
    FnExactJoinNumber_holds (fun _ h => by cases h) (by kernel_rfl) (fun _ h => by cases h) fnExactJoinNumber_row_tie rfl ⟨rfl, rfl⟩ (by kernel_rfl) rfl
    (fun f fn hf hfn => by
      obtain rfl : f = 5 := Option.some.inj ((show Tryd.prog.funcNamed "loop.example/g01403/laws.FnExactJoinNumber" = some 5 by kernel_rfl).symm.trans hf) |>.symm
      obtain rfl : fn = Tryd.f5 := (Option.some.inj (Tryd.func5.symm.trans hfn)).symm
      exact ⟨by kernel_rfl, fun j t ht => by
        rw [Tryd.params5] at ht
        have hm : t ∈ [2, 2, 2, 2, 2] := by simpa using Array.mem_of_getElem? ht
        have hall : ([2, 2, 2, 2, 2].all fun u => !Tryd.prog.wantsStandIn u) = true := by kernel_rfl
        exact (show Tryd.prog.wantsStandIn t = false by simpa using List.all_eq_true.1 hall t hm)⟩)
    (by kernel_rfl)
end Go.Proofs.YtffhnkhjfggooabDoor
