/- For all numbers the program tells by what a field splits levels just as the model does. -/
import Derived.Test.YtffhnkhjfggooaaGcd
namespace Go.Proofs.Ytffhnkhjfggooaa
open Go Go.ChangeShapes Go.WideShapes Go.ChangeAt Go.RowKit

/-- What is told of FactorOf. -/
def RetFactorOf (r0 : Int) (r1 : Int) (r2 : Bool) (w : World) (e : Ending) (w' : World) : Prop := e = .returned (.tuple #[.int .i64 r0, .int .i64 r1, .bool r2]) ∧ Below w.heap.size w w'
def fineB (l s j : Int) : Bool := isT l s j && ((l % 2 == 0) && decide (0 < j))
def dnI (j : Int) : Int := 2 * j * (j + 2)
def upI (l s j : Int) : Int := 2 * j * (j + 2) + j * (j + 2) + s * (s + 2) - l * (l + 2)
theorem prod_rng {a B : Int} (h0 : 0 ≤ a) (h1 : a ≤ B) : 0 ≤ a * (a + 2) ∧ a * (a + 2) ≤ B * (B + 2) :=
  ⟨Int.mul_nonneg h0 (by omega), Int.mul_le_mul h1 (by omega) (by omega) (by omega)⟩
structure FineAt (l s j : Int) : Prop where
  l0 : 0 ≤ l
  l1 : l ≤ 6
  s0 : 0 ≤ s
  s1 : s ≤ 6
  j0 : 0 < j
  j1 : j ≤ 12
  le : l % 2 = 0
  t : totB l s j = true
theorem fineAt {l s j : Int} (h : fineB l s j = true) : FineAt l s j := by
  unfold fineB isT at h
  simp only [Bool.and_eq_true, decide_eq_true_eq, beq_iff_eq] at h
  obtain ⟨⟨⟨h1, h2⟩, h3⟩, h4, h5⟩ := h
  obtain ⟨l0, l1⟩ := inB_rng h1
  obtain ⟨s0, s1⟩ := inB_rng h2
  have ht := h3
  unfold totB at ht
  rw [Bool.and_eq_true] at ht
  obtain ⟨_, t1⟩ := inB_rng ht.1
  exact ⟨l0, l1, s0, s1, h5, by omega, h4, h3⟩
set_option maxHeartbeats 800000 in
theorem l03Fine_any (l s j : Int) (w : World) : Calls Try.prog 54 #[.int .i64 l, .int .i64 s, .int .i64 j] w fun e w' => e = .returned (.bool (fineB l s j)) ∧ w = w' := by
  cases h1 : inB l 0 6
  · have H := Lib.hid (show fineB l s j = false by unfold fineB isT; rw [h1]; rfl)
    go_enter Try.func54, Try.ntmps54
    go_wp2_with (first | (go_at_call 50; refine (l03Is_any _ _).mono ?_; rintro e w' ⟨rfl, rfl⟩))
    go_ret
    exact ⟨ret_bool H.out.symm, rfl⟩
  · cases h2 : inB s 0 6
    · have H := Lib.hid (show fineB l s j = false by unfold fineB isT; rw [h1, h2]; rfl)
      go_enter Try.func54, Try.ntmps54
      go_wp2_with (first | (go_at_call 50; refine (l03Is_any _ _).mono ?_; rintro e w' ⟨rfl, rfl⟩))
      go_ret
      exact ⟨ret_bool H.out.symm, rfl⟩
    · obtain ⟨l0, l1⟩ := inB_rng h1
      obtain ⟨s0, s1⟩ := inB_rng h2
      have hm : Int.tmod l 2 = l % 2 := Int.tmod_eq_emod_of_nonneg (by omega)
      cases h3 : (l % 2 == 0)
      · have H := Lib.hid (show fineB l s j = false by unfold fineB; rw [h3]; simp)
        go_enter Try.func54, Try.ntmps54
        go_wp2_with (first | (go_at_call 50; refine (l03Is_any _ _).mono ?_; rintro e w' ⟨rfl, rfl⟩))
        go_ret
        exact ⟨ret_bool H.out.symm, rfl⟩
      · cases h4 : totB l s j
        · have H := Lib.hid (show fineB l s j = false by unfold fineB isT; rw [h1, h2, h4]; rfl)
          go_enter Try.func54, Try.ntmps54
          go_wp2_with (first | (go_at_call 50; refine (l03Is_any _ _).mono ?_; rintro e w' ⟨rfl, rfl⟩) | (go_at_call 52; refine (l03Total_any l s j _ l0 (by omega) s0 (by omega)).mono ?_; rintro e w' ⟨rfl, rfl⟩))
          go_ret
          exact ⟨ret_bool H.out.symm, rfl⟩
        · have H := Lib.hid (show fineB l s j = decide (0 < j) by unfold fineB isT; rw [h1, h2, h3, h4]; rfl)
          go_enter Try.func54, Try.ntmps54
          go_wp2_with (first | (go_at_call 50; refine (l03Is_any _ _).mono ?_; rintro e w' ⟨rfl, rfl⟩) | (go_at_call 52; refine (l03Total_any l s j _ l0 (by omega) s0 (by omega)).mono ?_; rintro e w' ⟨rfl, rfl⟩))
          go_ret
          exact ⟨ret_bool H.out.symm, rfl⟩
/-- The numbers of the factor. -/
def gG (l s j : Int) : Nat := Nat.gcd (dnI j).toNat (upI l s j).natAbs
def facU (l s j : Int) : Int := Int.tdiv (upI l s j) (gG l s j : Int)
def facD (l s j : Int) : Int := dnI j / (gG l s j : Int)
structure FacAt (l s j : Int) : Prop where
  d0 : 0 < dnI j
  d1 : dnI j ≤ 336
  u0 : -1000 ≤ upI l s j
  u1 : upI l s j ≤ 1000
  g0 : 1 ≤ gG l s j
  jj0 : 0 ≤ j * (j + 2)
  jj1 : j * (j + 2) ≤ 168
  ss0 : 0 ≤ s * (s + 2)
  ss1 : s * (s + 2) ≤ 48
  ll0 : 0 ≤ l * (l + 2)
  ll1 : l * (l + 2) ≤ 48
theorem facAt {l s j : Int} (h : FineAt l s j) : FacAt l s j := by
  obtain ⟨a0, a1⟩ := prod_rng h.l0 h.l1
  obtain ⟨b0, b1⟩ := prod_rng h.s0 h.s1
  obtain ⟨c0, c1⟩ := prod_rng (show 0 ≤ j by have := h.j0; omega) h.j1
  have hd : dnI j = 2 * (j * (j + 2)) := by unfold dnI; rw [Int.mul_assoc]
  have hp : 0 < j * (j + 2) := Int.mul_pos h.j0 (by have := h.j0; omega)
  have hu : upI l s j = dnI j + j * (j + 2) + s * (s + 2) - l * (l + 2) := rfl
  refine ⟨by omega, by omega, by omega, by omega, ?_, c0, by omega, b0, by omega, a0, by omega⟩
  exact Nat.gcd_pos_of_pos_left _ (by omega)
theorem facRng {l s j : Int} (h : FacAt l s j) : -1000 ≤ facU l s j ∧ facU l s j ≤ 1000 ∧ 0 ≤ facD l s j ∧ facD l s j ≤ 336 := by
  have h3 : (facU l s j).natAbs ≤ (upI l s j).natAbs := by unfold facU; rw [Int.natAbs_tdiv]; exact Nat.div_le_self _ _
  have hu0 := h.u0
  have hu1 := h.u1
  have hd0 := h.d0
  have hd1 := h.d1
  have h5 : 0 ≤ facD l s j := Int.ediv_nonneg (by omega) (by omega)
  have h6 : facD l s j ≤ dnI j := Int.ediv_le_self _ (by omega)
  omega
theorem l03Gap0_any (n : Int) (w : World) (h0 : -1000 ≤ n) (h1 : n ≤ 1000) : Calls Try.prog 78 #[.int .i64 n, .int .i64 0] w fun e w' => e = .returned (.int .i64 (n.natAbs : Int)) ∧ w = w' := by
  by_cases h : 0 < n
  · have d1 : decide (0 < n) = true := decide_eq_true h
    have H := Lib.hid (show n = (n.natAbs : Int) by omega)
    go_enter Try.func78, Try.ntmps78
    go_wp2
    go_ret
    exact ⟨by rw [← H.out]; rfl, rfl⟩
  · have d1 : decide (0 < n) = false := decide_eq_false h
    have H := Lib.hid (show -n = (n.natAbs : Int) by omega)
    go_enter Try.func78, Try.ntmps78
    go_wp2
    go_ret
    exact ⟨by rw [← H.out]; rfl, rfl⟩
set_option maxHeartbeats 1600000 in
theorem l03Factor_any (l s j : Int) (w : World) (hf : FineAt l s j) : Calls Try.prog 55 #[.int .i64 l, .int .i64 s, .int .i64 j] w fun e w' => e = .returned (.tuple #[.int .i64 (facU l s j), .int .i64 (facD l s j)]) ∧ ∃ m, w' = w.drewN m := by
  have ha := facAt hf
  obtain ⟨f0, f1, f2, f3⟩ := facRng ha
  obtain ⟨l0, l1, s0, s1, j0, j1, _, _⟩ := hf
  obtain ⟨d0, d1, u0, u1, g0, jj0, jj1, ss0, ss1, ll0, ll1⟩ := ha
  have e1 : 2 * j * (j + 2) = dnI j := rfl
  have e2 : dnI j + j * (j + 2) + s * (s + 2) - l * (l + 2) = upI l s j := rfl
  obtain ⟨D, hD⟩ : ∃ D : Nat, (D : Int) = dnI j := ⟨(dnI j).toNat, by omega⟩
  have HG := Lib.hid (show Nat.gcd (upI l s j).natAbs D = gG l s j by unfold gG; rw [← hD, Nat.gcd_comm]; rfl)
  have hDb : D ≤ 1000000000000000000 := by omega
  have hUb : (upI l s j).natAbs ≤ 1000000000000000000 := by omega
  have hne : (gG l s j : Int) ≠ 0 := by omega
  have t1 : Int.tdiv (upI l s j) (gG l s j : Int) = facU l s j := rfl
  have t2 : dnI j / (gG l s j : Int) = facD l s j := rfl
  rw [← hD] at e1 e2 t2 d0 d1
  clear hD
  go_enter Try.func55, Try.ntmps55
  go_wp2_with (first | (go_at_call 78; refine (l03Gap0_any _ _ (by omega) (by omega)).mono ?_; rintro e w' ⟨rfl, rfl⟩) | (go_at_call 85; refine (l03Common_any _ D _ hUb hDb).mono ?_; rintro e w' ⟨rfl, rfl⟩; rw [HG.out]))
  go_region
  all_goals go_wp2
  all_goals go_ret2
  all_goals exact ⟨rfl, _, rfl⟩
theorem specFac_yes (l s j : Int) (w : World) (h : fineB l s j = true) : Calls Try.prog 19 #[.int .i64 l, .int .i64 s, .int .i64 j] w (RetFactorOf (facU l s j) (facD l s j) true w) := by
  have hf := fineAt h
  go_enter Try.func19, Try.ntmps19
  go_wp2_with (first | (go_at_call 54; refine (l03Fine_any l s j _).mono ?_; rintro e w' ⟨rfl, rfl⟩) | (go_at_call 55; refine (l03Factor_any l s j _ hf).mono ?_; rintro e w' ⟨rfl, q, rfl⟩))
  go_ret3
  exact ⟨rfl, Below.drewN (Below.refl _ _) _⟩
theorem specFac_no (l s j : Int) (w : World) (h : fineB l s j = false) : Calls Try.prog 19 #[.int .i64 l, .int .i64 s, .int .i64 j] w (RetFactorOf 0 0 false w) := by
  go_enter Try.func19, Try.ntmps19
  go_wp2_with (first | (go_at_call 54; refine (l03Fine_any l s j _).mono ?_; rintro e w' ⟨rfl, rfl⟩))
  go_ret3
  exact ⟨rfl, Below.refl _ _⟩
theorem implFac_no (l s j : Int) (w : World) (h : fineB l s j = false) : Calls Try.prog 20 #[.int .i64 l, .int .i64 s, .int .i64 j] w (RetFactorOf 0 0 false w) := by
  unfold fineB at h
  cases ht : isT l s j
  · clear h
    go_enter Try.func20, Try.ntmps20
    go_wp2_with (first | (go_at_call 53; refine (isTotal_any l s j _).mono ?_; rintro e w' ⟨rfl, hb⟩))
    go_ret3
    exact ⟨rfl, hb⟩
  · rw [ht] at h
    have hl : 0 ≤ l ∧ 0 ≤ j := by
      unfold isT totB at ht
      simp only [Bool.and_eq_true] at ht
      have h1 := (inB_rng ht.1.1).1
      have h2 := (inB_rng ht.1.2).1
      have h3 := (inB_rng ht.2.1).1
      have : 0 ≤ gapI l s := by unfold gapI; split <;> omega
      omega
    obtain ⟨l0, j0⟩ := hl
    have hm : Int.tmod l 2 = l % 2 := Int.tmod_eq_emod_of_nonneg l0
    cases h3 : (l % 2 == 0)
    · have h3' : (l % 2 != 0) = true := by unfold bne; rw [h3]; rfl
      clear h h3
      go_enter Try.func20, Try.ntmps20
      go_wp2_with (first | (go_at_call 53; refine (isTotal_any l s j _).mono ?_; rintro e w' ⟨rfl, hb⟩))
      go_ret3
      exact ⟨rfl, hb⟩
    · have h3' : (l % 2 != 0) = false := by unfold bne; rw [h3]; rfl
      rw [h3] at h
      have hj : j = 0 := by
        have : decide (0 < j) = false := h
        rw [decide_eq_false_iff_not] at this
        omega
      subst hj
      clear h h3
      go_enter Try.func20, Try.ntmps20
      go_wp2_with (first | (go_at_call 53; refine (isTotal_any l s 0 _).mono ?_; rintro e w' ⟨rfl, hb⟩))
      go_ret3
      exact ⟨rfl, hb⟩
set_option maxHeartbeats 1600000 in
theorem implFac_yes (l s j : Int) (w : World) (h : fineB l s j = true) : Calls Try.prog 20 #[.int .i64 l, .int .i64 s, .int .i64 j] w (RetFactorOf (facU l s j) (facD l s j) true w) := by
  have hf := fineAt h
  have ht : isT l s j = true := by unfold fineB at h; rw [Bool.and_eq_true] at h; exact h.1
  clear h
  have ha := facAt hf
  obtain ⟨f0, f1, f2, f3⟩ := facRng ha
  obtain ⟨l0, l1, s0, s1, j0, j1, le, _⟩ := hf
  obtain ⟨d0, d1, u0, u1, g0, jj0, jj1, ss0, ss1, ll0, ll1⟩ := ha
  have hm : Int.tmod l 2 = l % 2 := Int.tmod_eq_emod_of_nonneg l0
  have h3' : (l % 2 != 0) = false := by rw [le]; rfl
  have hj' : (j == 0) = false := by rw [beq_eq_false_iff_ne]; omega
  have e1 : 2 * j * (j + 2) = dnI j := rfl
  have e2 : dnI j + j * (j + 2) + s * (s + 2) - l * (l + 2) = upI l s j := rfl
  obtain ⟨D, hD⟩ : ∃ D : Nat, (D : Int) = dnI j := ⟨(dnI j).toNat, by omega⟩
  have HG := Lib.hid (show Nat.gcd D (upI l s j).natAbs = gG l s j by unfold gG; rw [← hD]; rfl)
  have hDb : D ≤ 1000000000000000000 := by omega
  have hUb : (upI l s j).natAbs ≤ 1000000000000000000 := by omega
  have t1 : Int.tdiv (upI l s j) (gG l s j : Int) = facU l s j := rfl
  have t2 : dnI j / (gG l s j : Int) = facD l s j := rfl
  rw [← hD] at e1 e2 t2 d0 d1
  have hD1 : 1 ≤ D := by omega
  clear hD le
  go_enter Try.func20, Try.ntmps20
  go_wp2_with (first | (go_at_call 53; refine (isTotal_any l s j _).mono ?_; rintro e w1 ⟨rfl, hb⟩) | (go_at_call 56; refine (reduced_any _ D _ hUb hDb hD1).mono ?_; rintro e w2 ⟨rfl, hb2⟩; rw [HG.out, t1, t2]; unfold frac))
  go_quiet (fail)
  all_goals go_wp2
  all_goals go_ret3
  all_goals
    have hB := hb.trans (hb2.mono hb.size)
    first
      | exact ⟨rfl, Below.drewN (((hB.alloc hB.size _).setCell hB.size _).setCell hB.size _) _⟩
      | exact ⟨rfl, Below.drewN (hB.alloc hB.size _) _⟩
      | exact ⟨rfl, hB.alloc hB.size _⟩
theorem bothFactorOf (l : Int) (_ : (Lit.int .i64 l).wf = true) (s : Int) (_ : (Lit.int .i64 s).wf = true) (j : Int) (_ : (Lit.int .i64 j).wf = true) :
    ∃ (r t : Int) (ok : Bool), (∀ (w : World), Calls Try.prog 19 #[.int .i64 l, .int .i64 s, .int .i64 j] w (RetFactorOf r t ok w)) ∧ ∀ (w : World), Calls Try.prog 20 #[.int .i64 l, .int .i64 s, .int .i64 j] w (RetFactorOf r t ok w) := by
  cases h : fineB l s j
  · exact ⟨0, 0, false, fun w => specFac_no l s j w h, fun w => implFac_no l s j w h⟩
  · exact ⟨_, _, _, fun w => specFac_yes l s j w h, fun w => implFac_yes l s j w h⟩
end Go.Proofs.Ytffhnkhjfggooaa
