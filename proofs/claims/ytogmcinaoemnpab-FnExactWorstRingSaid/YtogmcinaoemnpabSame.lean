
/- The laws' own test whether two numbers are the same answers yes for words that differ in nothing but the bits of a not-a-number. -/
import Derived.Test.YtogmcinaoemnpabSameA
namespace Go.Proofs.Ytogmcinaoemnpab
open Go Go.RowKit

set_option maxHeartbeats 800000 in
theorem sameFloat_any (a b : Nat) (w : World) (h : canon .f64 a = canon .f64 b) :
    Calls Try.prog 35 #[.float .f64 a, .float .f64 b] w fun e w' => e = .returned (.bool true) ∧ ∃ n, w' = w.drewN n := by
  have hn := isNaN_of_canon h
  cases ha : isNaN .f64 a
  · rw [ha] at hn
    rw [canon_num ha, canon_num hn.symm] at h
    subst h
    clear hn
    have h1 : (FloatKind.f64.format.order a a != some .eq) = false := by rw [order_neq_self, ha]
    have h2 : (FloatKind.f64.format.order a a == some .eq) = true := by rw [order_eql_self, ha]; rfl
    clear ha
    have hp := order_pick_l .f64
    cases h0 : (FloatKind.f64.format.order a 0 == some .eq)
    · go_enter Try.func35, Try.ntmps35
      go_wp2
      go_ret
      exact ⟨rfl, 0, rfl⟩
    · go_enter Try.func35, Try.ntmps35
      go_wp2_with ((with_reducible refine wpL_fbin ?_); refine ⟨_, _, _, rfl, rfl, rfl, fun s n => ?_⟩)
      go_ret
      exact ⟨by simp, _, rfl⟩
  · rw [ha] at hn
    have h1 : (FloatKind.f64.format.order a a != some .eq) = true := by rw [order_neq_self, ha]
    have h2 : (FloatKind.f64.format.order b b != some .eq) = true := by rw [order_neq_self, ← hn]
    clear hn ha h
    go_enter Try.func35, Try.ntmps35
    go_wp2
    go_ret
    exact ⟨rfl, 0, rfl⟩
end Go.Proofs.Ytogmcinaoemnpab
