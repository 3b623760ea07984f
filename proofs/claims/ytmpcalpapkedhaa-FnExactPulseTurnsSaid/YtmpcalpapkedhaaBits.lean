
/- The bits of a number, in the model's package and in the program. -/
import Derived.Test.YtmpcalpapkedhaaAbsW
import Derived.Test.YtmpcalpapkedhaaChecked
namespace Go.Proofs.Ytmpcalpapkedhaa
open Go Go.RowKit

theorem run_f32bits (x : Nat) (w : World) : (callFunc 219 #[.float .f32 x]).run Try.prog w = .ok (.value (.int .u32 x)) w := by kernel_rfl

set_option maxHeartbeats 400000 in
theorem l01Bits_any (x : Nat) (w : World) (hx : x < 4294967296) :
    Calls Try.prog 237 #[.float .f32 x] w fun e w' => e = .returned (.int .i64 (canon .f32 x)) ∧ w = w' := by
  have hb := run_f32bits
  cases hn : isNaN .f32 x
  · have h1 : (FloatKind.f32.format.order x x != some .eq) = false := by rw [order_neq_self, hn]
    rw [canon_num hn]
    clear hn
    go_enter Try.func237, Try.ntmps237
    go_wp2
    go_ret
    exact ⟨rfl, rfl⟩
  · have h1 : (FloatKind.f32.format.order x x != some .eq) = true := by rw [order_neq_self, hn]
    rw [canon_nan hn]
    clear hn
    go_enter Try.func237, Try.ntmps237
    go_wp2
    go_ret
    exact ⟨rfl, rfl⟩
set_option maxRecDepth 100000 in
set_option maxHeartbeats 400000 in
theorem BitsOf_any (x : Nat) (w : World) (hx : x < 4294967296) :
    Calls Try.prog 167 #[.float .f32 x] w fun e w' => e = .returned (.int .i64 (canon .f32 x)) ∧ ∃ n, w' = w.drewN n := by
  have hb := run_f32bits
  have hp : ∀ s, isNaN .f64 (pick .f64 (fconv .f32 x .f64) s) = isNaN .f32 x := fun s => by rw [isNaN_pick, isNaN_fconv]
  cases hn : isNaN .f32 x
  · rw [canon_num hn]
    rw [hn] at hp
    clear hn
    go_enter Try.func167, Try.ntmps167
    go_wp2_with (first | ((with_reducible refine wpL_fconv ?_); refine ⟨_, _, _, rfl, Option.isSome_iff_exists.2 ⟨_, Try.underlying22⟩, Try.underlying76, FloatKind.noConfusion, convOk_widen _, fun s n => ?_⟩) | (go_at_call 211; refine (mathIsNaN_any _ _).mono ?_; rintro e w' ⟨rfl, rfl⟩))
    go_ret
    exact ⟨rfl, _, rfl⟩
  · rw [canon_nan hn]
    rw [hn] at hp
    clear hn
    go_enter Try.func167, Try.ntmps167
    go_wp2_with (first | ((with_reducible refine wpL_fconv ?_); refine ⟨_, _, _, rfl, Option.isSome_iff_exists.2 ⟨_, Try.underlying22⟩, Try.underlying76, FloatKind.noConfusion, convOk_widen _, fun s n => ?_⟩) | (go_at_call 211; refine (mathIsNaN_any _ _).mono ?_; rintro e w' ⟨rfl, rfl⟩))
    go_ret
    exact ⟨rfl, _, rfl⟩
end Go.Proofs.Ytmpcalpapkedhaa
