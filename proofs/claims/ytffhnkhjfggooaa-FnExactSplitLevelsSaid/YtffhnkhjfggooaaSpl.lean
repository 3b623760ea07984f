/- Levels in a field: as the model tells them. -/
import Derived.Test.YtffhnkhjfggooaaQ
import Derived.Test.YtffhnkhjfggooaaFac
import Derived.Test.YtffhnkhjfggooaaArr
namespace Go.Proofs.Ytffhnkhjfggooaa
open Go Go.ChangeShapes Go.WideShapes Go.ChangeAt Go.RowKit

def byR (U D : Int) (field : Nat) : Nat := fbin .mul .f32 (fbin .quo .f32 (floatOfInt .f32 U) (floatOfInt .f32 D)) field
def splR (lv B : Nat) (j : Int) (k : Nat) : Nat := fbin .add .f32 lv (fbin .mul .f32 B (fbin .quo .f32 (floatOfInt .f32 (-j + 2 * (k : Int))) 1073741824))
def splOk (l s j : Int) (lv fd : Nat) : Bool := fineB l s j && (isFin .f32 lv && isFin .f32 fd)
set_option maxRecDepth 100000 in
set_option maxHeartbeats 3200000 in
theorem specSpl_yes (l s : Int) (J : Nat) (lv fd : Nat) (w : World) (hf : fineB l s J = true) (h1 : isFin .f32 lv = true) (h2 : isFin .f32 fd = true) :
    Calls Try.prog 21 #[.int .i64 l, .int .i64 s, .int .i64 (J : Int), .float .f32 lv, .float .f32 fd] w (LevRet (splR lv (byR (facU l s J) (facD l s J) fd) J) (J + 1) w) := by
  have hfa := fineAt hf
  obtain ⟨_, _, _, _, j0, j1, _, _⟩ := fineAt hf
  obtain ⟨i0, hi, hz0, hz1, hz2⟩ := info_parts infoF
  have hp := fun op => fbin_pick_l op .f32
  have hq := fun op => fbin_pick_r op .f32
  obtain ⟨U, hU⟩ : ∃ U, facU l s J = U := ⟨_, rfl⟩
  obtain ⟨D, hD⟩ : ∃ D, facD l s J = D := ⟨_, rfl⟩
  rw [hU, hD]
  obtain ⟨B, hB⟩ : ∃ B, B = byR U D fd := ⟨_, rfl⟩
  have hBe : fbin .mul .f32 (fbin .quo .f32 (floatOfInt .f32 U) (floatOfInt .f32 D)) fd = B := hB.symm
  rw [← hB]
  clear hB
  go_enter Try.func21, Try.ntmps21
  go_wp2_with (first | ((with_reducible refine wpL_fbin ?_); refine ⟨_, _, _, rfl, rfl, rfl, fun s n => ?_⟩) | (go_at_call 54; refine (l03Fine_any l s J _).mono ?_; rintro e w' ⟨rfl, rfl⟩) | (go_at_call 57; refine (l01Finite_any _ _).mono ?_; rintro e w' ⟨rfl, q, rfl⟩) | (go_at_call 55; refine (l03Factor_any l s J _ hfa).mono ?_; rintro e w' ⟨rfl, q, rfl⟩; rw [hU, hD]))
  go_loopw [15, 16] (fun v i wr => ∃ (k : Nat) (X : Nat → Nat), k ≤ J + 1 ∧ i = .int .i64 (-(J : Int) + 2 * (k : Int)) ∧ wr.ownsRow w.heap.size 29 1 v k (rowOf X k) ∧ Like X (splR lv B J) k ∧ Below w.heap.size w wr) (fun _ i _ => (J + 100 - intOf i).toNat)
  case atStart => exact ⟨0, fun _ => 0, Nat.zero_le _, by simp, own_empty _ _, fun _ h => absurd h (Nat.not_lt_zero _), Below.alloc (Below.drewN (Below.refl _ _) _) (Nat.le_refl _) _⟩
  case round =>
    obtain ⟨k, X, hk, rfl, hownk, hL, hBk⟩ := hrel
    have hsz := hBk.size
    by_cases hlt : k < J + 1
    · go_wp2_with (first | ((with_reducible refine wpL_fbin ?_); refine ⟨_, _, _, rfl, rfl, rfl, fun s n => ?_⟩) | (at_builtin; refine wpL_push hi hz0 hz1 hz2 rfl rfl rfl rfl (by exact hownk) (by omega) (by exact hsz) ?_; intro v' w1 hown' hB'))
      go_roundw
      case rel => exact ⟨k + 1, _, by omega, by go_num, hown', like_push hL rfl, Below.trans (Below.drewN hBk _) hB'⟩
      case measure => simp [intOf]; omega
    · have hkc : k = J + 1 := by omega
      subst hkc
      cases hf : finL X (J + 1)
      · go_wp2_with (go_at_call 58; refine (l03List_any _ w.heap.size (J + 1) X _ hownk (by omega)).mono ?_; rintro e w' ⟨rfl, q, rfl⟩)
        go_ret2
        exact levRet_no hf hL hBk
      · go_wp2_with (go_at_call 58; refine (l03List_any _ w.heap.size (J + 1) X _ hownk (by omega)).mono ?_; rintro e w' ⟨rfl, q, rfl⟩)
        go_ret2
        exact levRet_yes hf hL hownk hBk
theorem specSpl_no (l s j : Int) (lv fd : Nat) (w : World) (R : Nat → Nat) (h : splOk l s j lv fd = false) :
    Calls Try.prog 21 #[.int .i64 l, .int .i64 s, .int .i64 j, .float .f32 lv, .float .f32 fd] w (OutRet R 0 false w) := by
  unfold splOk at h
  cases h1 : fineB l s j
  · clear h
    go_enter Try.func21, Try.ntmps21
    go_wp2_with (first | (go_at_call 54; refine (l03Fine_any l s j _).mono ?_; rintro e w' ⟨rfl, rfl⟩))
    go_ret2
    exact OutRet.no (Below.refl _ _)
  · cases h2 : isFin .f32 lv
    · clear h
      go_enter Try.func21, Try.ntmps21
      go_wp2_with (first | (go_at_call 54; refine (l03Fine_any l s j _).mono ?_; rintro e w' ⟨rfl, rfl⟩) | (go_at_call 57; refine (l01Finite_any _ _).mono ?_; rintro e w' ⟨rfl, q, rfl⟩))
      go_ret2
      exact OutRet.no (Below.drewN (Below.refl _ _) _)
    · have h3 : isFin .f32 fd = false := by rw [h1, h2] at h; exact h
      clear h
      go_enter Try.func21, Try.ntmps21
      go_wp2_with (first | (go_at_call 54; refine (l03Fine_any l s j _).mono ?_; rintro e w' ⟨rfl, rfl⟩) | (go_at_call 57; refine (l01Finite_any _ _).mono ?_; rintro e w' ⟨rfl, q, rfl⟩))
      go_ret2
      exact OutRet.no (Below.drewN (Below.refl _ _) _)
theorem partsOf_any (a : Int) (w : World) (h0 : 0 ≤ a) (h1 : a ≤ 40) :
    Calls Try.prog 60 #[.int .i64 a] w fun e w' => e = .returned (.func (.func 99) #[] #[.pointer (some ⟨w.heap.size, 0, none⟩), .pointer (some ⟨w.heap.size + 1, 0, none⟩)]) ∧ w' = (w.alloc (.cells #[.int .i64 (-a)] 2)).alloc (.cells #[.int .i64 a] 2) := by
  go_enter Try.func60, Try.ntmps60
  go_wp2_with (first | (go_at_call 89; refine (byTwo_any _ _ _).mono ?_; rintro e w' ⟨rfl, rfl⟩))
  go_ret
  exact ⟨rfl, rfl⟩
end Go.Proofs.Ytffhnkhjfggooaa
