/- How many states a rotor has up to a height: the program tells what the model tells, for all arguments. -/
import Derived.Test.YtffhnkhjfggooaaArr
import Derived.Test.YtffhnkhjfggooaaPush
namespace Go.Proofs.Ytffhnkhjfggooaa
open Go Go.ChangeShapes Go.WideShapes Go.ChangeAt Go.RowKit

def upTo (b most : Int) (j : Nat) : Bool := decide (b * (j : Int) * ((j : Int) + 1) ≤ most)
/-- The first j that is too high. -/
def IsN (b most : Int) (N : Nat) : Prop := N ≤ 1001 ∧ upTo b most N = false ∧ ∀ j, j < N → upTo b most j = true
theorem up_bound {b : Int} {j : Nat} (h1 : 1 ≤ b) (h2 : b ≤ 1000) (hj : j ≤ 1001) : 0 ≤ b * (j : Int) ∧ b * (j : Int) ≤ 1001000 ∧ 0 ≤ b * (j : Int) * ((j : Int) + 1) ∧ b * (j : Int) * ((j : Int) + 1) ≤ 1003002000 := by
  have a0 : 0 ≤ b * (j : Int) := Int.mul_nonneg (by omega) (by omega)
  have a1 : b * (j : Int) ≤ 1000 * 1001 := Int.mul_le_mul h2 (by omega) (by omega) (by omega)
  have a2 : 0 ≤ b * (j : Int) * ((j : Int) + 1) := Int.mul_nonneg a0 (by omega)
  have a3 : b * (j : Int) * ((j : Int) + 1) ≤ 1001000 * 1002 := Int.mul_le_mul (by omega) (by omega) (by omega) (by omega)
  exact ⟨a0, by omega, a2, by omega⟩
theorem up_top {b most : Int} (h1 : 1 ≤ b) (h3 : most ≤ 1000000) : upTo b most 1001 = false := by
  unfold upTo
  have : (1001 : Int) * 1002 ≤ b * ((1001 : Nat) : Int) * (((1001 : Nat) : Int) + 1) := by omega
  exact decide_eq_false (by omega)
theorem isN_some (b most : Int) (h1 : 1 ≤ b) (h3 : most ≤ 1000000) : ∀ d k, k + d = 1001 → (∀ j, j < k → upTo b most j = true) → ∃ N, IsN b most N := by
  intro d
  induction d with
  | zero => intro k hk hg; obtain rfl : k = 1001 := (by omega); exact ⟨1001, Nat.le_refl _, up_top h1 h3, hg⟩
  | succ d ih =>
    intro k hk hg
    cases hu : upTo b most k
    · exact ⟨k, by omega, hu, hg⟩
    · refine ih (k + 1) (by omega) fun j hj => ?_
      by_cases hjk : j < k
      · exact hg j hjk
      · rw [show j = k by omega]; exact hu
theorem sq_bound {k : Nat} (hk : k ≤ 1001) : 0 ≤ (k : Int) * (k : Int) ∧ (k : Int) * (k : Int) ≤ 1002001 :=
  ⟨Int.mul_nonneg (by omega) (by omega), Int.mul_le_mul (c := 1001) (d := 1001) (by omega) (by omega) (by omega) (by omega)⟩
theorem sq_next (k : Nat) : (k : Int) * (k : Int) + (2 * (k : Int) + 1) = ((k + 1 : Nat) : Int) * ((k + 1 : Nat) : Int) := by
  rw [Int.natCast_add, Int.add_mul, Int.mul_add]; omega
/-- What is told of RotorStates. -/
def RetRotorStates (r0 : Int) (r1 : Bool) (w : World) (e : Ending) (w' : World) : Prop := e = .returned (.tuple #[.int .i64 r0, .bool r1]) ∧ Below w.heap.size w w'
theorem specRst_yes (b most : Int) (N : Nat) (h1 : 1 ≤ b) (h2 : b ≤ 1000) (h3 : 0 ≤ most) (h4 : most ≤ 1000000) (hN : IsN b most N) (w : World) :
    Calls Try.prog 32 #[.int .i64 b, .int .i64 most] w (RetRotorStates ((N : Int) * (N : Int)) true w) := by
  have d1 : inB b 1 1000 = true := inB_yes h1 h2
  have d2 : inB most 0 1000000 = true := inB_yes h3 h4
  have HN := Lib.hid hN
  clear hN
  go_enter Try.func32, Try.ntmps32
  go_wp2_with (go_at_call 51; refine (l00In_any _ _ _ _).mono ?_; rintro e w' ⟨rfl, rfl⟩)
  go_loop [6, 7] (fun s j => ∃ k : Nat, k ≤ N ∧ s = .int .i64 ((k : Int) * (k : Int)) ∧ j = .int .i64 (k : Int)) (fun _ j => N - (intOf j).toNat)
  case atStart => exact ⟨0, Nat.zero_le _, rfl, rfl⟩
  case round =>
    obtain ⟨k, hk, rfl, rfl⟩ := hrel
    have hN1 := HN.out.1
    obtain ⟨b0, b1, b2, b3⟩ := up_bound (j := k) h1 h2 (by omega)
    obtain ⟨s0, s1⟩ := sq_bound (k := k) (by omega)
    have HS := Lib.hid (sq_next k)
    by_cases hlt : k < N
    · have hu : decide (b * (k : Int) * ((k : Int) + 1) ≤ most) = true := HN.out.2.2 k hlt
      go_wp2
      go_round
      case rel => exact ⟨k + 1, by omega, by rw [← HS.out], by go_num⟩
      case measure => simp [intOf]; omega
    · have hkN : k = N := by omega
      subst hkN
      have hu : decide (b * (k : Int) * ((k : Int) + 1) ≤ most) = false := HN.out.2.1
      go_wp2
      go_ret2
      exact ⟨rfl, Below.refl _ _⟩
theorem implRst_yes (b most : Int) (N : Nat) (h1 : 1 ≤ b) (h2 : b ≤ 1000) (h3 : 0 ≤ most) (h4 : most ≤ 1000000) (hN : IsN b most N) (w : World) :
    Calls Try.prog 33 #[.int .i64 b, .int .i64 most] w (RetRotorStates ((N : Int) * (N : Int)) true w) := by
  have d1 : decide (b < 1) = false := decide_eq_false (by omega)
  have d2 : decide (1000 < b) = false := decide_eq_false (by omega)
  have d3 : decide (most < 0) = false := decide_eq_false (by omega)
  have d4 : decide (1000000 < most) = false := decide_eq_false (by omega)
  have HN := Lib.hid hN
  clear hN
  go_enter Try.func33, Try.ntmps33
  go_wp2
  go_loop [6, 7] (fun s j => ∃ k : Nat, k ≤ N ∧ s = .int .i64 ((k : Int) * (k : Int)) ∧ j = .int .i64 (k : Int)) (fun _ j => N - (intOf j).toNat)
  case atStart => exact ⟨0, Nat.zero_le _, rfl, rfl⟩
  case round =>
    obtain ⟨k, hk, rfl, rfl⟩ := hrel
    have hN1 := HN.out.1
    obtain ⟨b0, b1, b2, b3⟩ := up_bound (j := k) h1 h2 (by omega)
    obtain ⟨s0, s1⟩ := sq_bound (k := k) (by omega)
    have HS := Lib.hid (sq_next k)
    by_cases hlt : k < N
    · have hu : decide (b * (k : Int) * ((k : Int) + 1) ≤ most) = true := HN.out.2.2 k hlt
      go_wp2
      go_round
      case rel => exact ⟨k + 1, by omega, by rw [← HS.out], by go_num⟩
      case measure => simp [intOf]; omega
    · have hkN : k = N := by omega
      subst hkN
      have hu : decide (b * (k : Int) * ((k : Int) + 1) ≤ most) = false := HN.out.2.1
      go_wp2
      go_ret2
      exact ⟨rfl, Below.refl _ _⟩
theorem specRst_no (b most : Int) (h : ¬ (1 ≤ b ∧ b ≤ 1000 ∧ 0 ≤ most ∧ most ≤ 1000000)) (w : World) :
    Calls Try.prog 32 #[.int .i64 b, .int .i64 most] w (RetRotorStates 0 false w) := by
  cases d1 : inB b 1 1000
  · clear h
    go_enter Try.func32, Try.ntmps32
    go_wp2_with (go_at_call 51; refine (l00In_any _ _ _ _).mono ?_; rintro e w' ⟨rfl, rfl⟩)
    go_ret2
    exact ⟨rfl, Below.refl _ _⟩
  · have d2 : inB most 0 1000000 = false := by
      unfold inB at d1 ⊢
      simp only [Bool.and_eq_true, decide_eq_true_eq] at d1
      rw [Bool.eq_false_iff]
      simp only [ne_eq, Bool.and_eq_true, decide_eq_true_eq]
      exact fun hh => h ⟨d1.1, d1.2, hh.1, hh.2⟩
    clear h
    go_enter Try.func32, Try.ntmps32
    go_wp2_with (go_at_call 51; refine (l00In_any _ _ _ _).mono ?_; rintro e w' ⟨rfl, rfl⟩)
    go_ret2
    exact ⟨rfl, Below.refl _ _⟩
theorem implRst_no (b most : Int) (h : ¬ (1 ≤ b ∧ b ≤ 1000 ∧ 0 ≤ most ∧ most ≤ 1000000)) (w : World) :
    Calls Try.prog 33 #[.int .i64 b, .int .i64 most] w (RetRotorStates 0 false w) := by
  cases d1 : decide (b < 1)
  · cases d2 : decide (1000 < b)
    · cases d3 : decide (most < 0)
      · have d4 : decide (1000000 < most) = true := by
          simp only [decide_eq_false_iff_not] at d1 d2 d3
          exact decide_eq_true (by omega)
        clear h
        go_enter Try.func33, Try.ntmps33
        go_wp2
        go_ret2
        exact ⟨rfl, Below.refl _ _⟩
      · clear h
        go_enter Try.func33, Try.ntmps33
        go_wp2
        go_ret2
        exact ⟨rfl, Below.refl _ _⟩
    · clear h
      go_enter Try.func33, Try.ntmps33
      go_wp2
      go_ret2
      exact ⟨rfl, Below.refl _ _⟩
  · clear h
    go_enter Try.func33, Try.ntmps33
    go_wp2
    go_ret2
    exact ⟨rfl, Below.refl _ _⟩
theorem bothRotorStates (b : Int) (_ : (Lit.int .i64 b).wf = true) (most : Int) (_ : (Lit.int .i64 most).wf = true) :
    ∃ (r : Int) (ok : Bool), (∀ (w : World), Calls Try.prog 32 #[.int .i64 b, .int .i64 most] w (RetRotorStates r ok w)) ∧
      ∀ (w : World), Calls Try.prog 33 #[.int .i64 b, .int .i64 most] w (RetRotorStates r ok w) := by
  by_cases h : 1 ≤ b ∧ b ≤ 1000 ∧ 0 ≤ most ∧ most ≤ 1000000
  · obtain ⟨h1, h2, h3, h4⟩ := h
    obtain ⟨N, hN⟩ := isN_some b most h1 h4 1001 0 rfl (fun j hj => absurd hj (Nat.not_lt_zero _))
    exact ⟨_, _, fun w => specRst_yes b most N h1 h2 h3 h4 hN w, fun w => implRst_yes b most N h1 h2 h3 h4 hN w⟩
  · exact ⟨0, false, fun w => specRst_no b most h w, fun w => implRst_no b most h w⟩
set_option maxRecDepth 100000 in
set_option maxHeartbeats 6400000 in
theorem lawRotorStates_in (W : World) (a0 : Int) (_wf0 : (Lit.int .i64 a0).wf = true) (a1 : Int) (_wf1 : (Lit.int .i64 a1).wf = true)  (r0 : Int) (r1 : Bool) (HS : Hid (∀  (w : World),  Calls Try.prog 32 #[.int .i64 a0, .int .i64 a1] w (RetRotorStates r0 r1 w))) (HI : Hid (∀  (w : World),  Calls Try.prog 33 #[.int .i64 a0, .int .i64 a1] w (RetRotorStates r0 r1 w))) :
    Calls Try.prog 10 #[.int .i64 a0, .int .i64 a1] W fun e w' => e = .returned (.bool true) ∧ Below W.heap.size W w' := by
  have hcv := fun (R : Nat) (s t : Nat) => show canon .f64 (pick .f64 (fconv .f32 (pick .f32 R s) .f64) t) = canon .f64 (fconv .f32 R .f64) by rw [canon_pick, fconv_pick]
  have hcw := fun (R : Nat) (s t : Nat) => show canon .f64 (pick .f64 R s) = canon .f64 (pick .f64 R t) by rw [canon_pick, canon_pick]
  have HCV := Lib.hid hcv
  have HCW := Lib.hid hcw
  clear hcv hcw
  have hnb1 : (r1 != r1) = false := by simp
  have HB := Blw.refl W
  go_enter Try.func10, Try.ntmps10
  go_wp2_with fail
  refine (HS.out  _ ).mono ?_
  rintro e0 w1 ⟨rfl, B0⟩
  replace HB := Blw.next (by exact HB) B0
  clear B0
  have HL := Blw.refl w1
  have Eg := (Blw.out (by exact HL)).size
  go_wp2_with fail
  refine (HI.out  _ ).mono ?_
  rintro e0 w2 ⟨rfl, B0⟩
  replace HL := Blw.next (by exact HL) B0
  clear B0
  go_wp2
  go_ret
  exact ⟨rfl, (Blw.out (by exact HB)).trans ((Blw.out (by exact HL)).mono (Blw.out (by exact HB)).size)⟩
set_option maxHeartbeats 1600000 in
theorem lawRotorStates_any (W : World) (a0 : Int) (_wf0 : (Lit.int .i64 a0).wf = true) (a1 : Int) (_wf1 : (Lit.int .i64 a1).wf = true) :
    Calls Try.prog 10 #[.int .i64 a0, .int .i64 a1] W fun e w' => e = .returned (.bool true) ∧ Below W.heap.size W w' := by
  obtain ⟨r0, r1, hs, hi⟩ := bothRotorStates a0 _wf0 a1 _wf1
  exact lawRotorStates_in W a0 _wf0 a1 _wf1  r0 r1 (Lib.hid hs) (Lib.hid hi)
set_option maxRecDepth 100000 in
theorem FnExactRotorStates_lifted (os : Os) (started : os.Started) (H : Type) (enc : TypeId × Value → H) :
    ReturnsInHanded {} Try.checked os 10 .any (Rows.fnExactRotorStatesSpec.pre6 enc Try.prog Try.f10 Rows.fnExactRotorStatesRow.domain false) (Rows.fnExactRotorStatesSpec.post enc Try.prog Try.f10 false true false false) := by
  refine returnsInHanded_of_change (C := Try.checked) ownKnob_none started (by kernel_rfl) Try.func10
    (ChangeSpec.witness6 (enc := enc) (C := Try.checked) false ⟨#[], #[.int .i64 0, .int .i64 0], []⟩ 8 (by kernel_rfl) (by kernel_rfl) (by kernel_rfl) (by kernel_rfl)) ?_
  intro W base args ds gs before hval0 hW _ _
  have hval : ∀ (j : Nat) t v, Try.f10.params[j]? = some t → args[j]? = some v → Value.okWide Try.prog W .any base t v := hval0
  have hW' := hW
  obtain ⟨p, q, hA0, hV, rfl, _, _⟩ := hW
  have hA : DataW.TrodAll enc Try.prog W 0 (fun _ => true) true Try.f10.params.toList args.toList ds p := hA0
  rw [Try.params10] at hA hval
  obtain ⟨v0, v1, d0, d1, p0, p1, rfl, rfl, rfl, h0, h1⟩ := trodAll_two hA
  obtain ⟨rfl, rfl⟩ := trodVars_none hV
  obtain ⟨a0, rfl, rfl, rfl, w0⟩ := open_int Try.underlying2 (hval 0 2 v0 rfl rfl) h0
  obtain ⟨a1, rfl, rfl, rfl, w1⟩ := open_int Try.underlying2 (hval 1 2 v1 rfl rfl) h1
  clear hA0 hval0
  refine (lawRotorStates_any W a0 w0 a1 w1).mono fun e W' ⟨he, hb⟩ => ?_
  subst he
  have hA2 := trodAll_mk2 (enc := enc) (w := W') (base := 0) (spare := fun b => decide (b < W.heap.size)) (held := true) (shut_int Try.underlying2 w0) (shut_int Try.underlying2 w1)
  exact ⟨_, rfl, _, _, _, [], _, [], hW', trodAll_cons_mk (shut_bool Try.underlying4 _) trodAll_mk0, hA2, rfl, hb.frame _, fun h => by cases h⟩
theorem FnExactRotorStates_holds : Rows.FnExactRotorStatesSaid :=
  OpenClaim.holds_of_wide 10 Try.f10 rfl rfl rfl rfl rfl rfl rfl ⟨rfl, rfl, rfl, rfl, rfl⟩ rfl rfl rfl rfl rfl (by kernel_rfl) Try.func10 (by kernel_rfl)
    (of_decide_eq_true (by kernel_rfl)) (by unfold Func.isWrapper; first | (rw [if_pos (by decide +kernel)]; kernel_rfl) | (rw [if_neg (by decide +kernel)]; exact ⟨rfl, rfl⟩))
    (fun os started H enc _ => FnExactRotorStates_lifted os started H enc)
end Go.Proofs.Ytffhnkhjfggooaa
