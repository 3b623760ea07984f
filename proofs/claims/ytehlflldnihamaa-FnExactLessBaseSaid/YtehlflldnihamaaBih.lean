/- The half of two numbers, as the program takes it for a list's base. -/
import Derived.Test.YtehlflldnihamaaBsp
import Derived.Test.YtehlflldnihamaaS7
import Derived.Test.YtehlflldnihamaaAlk
import Derived.Test.YtehlflldnihamaaQ5
namespace Go.Proofs.Ytehlflldnihamaa
open Go Go.ChangeShapes Go.WideShapes Go.ChangeAt Go.RowKit

def HalRet (R : Nat) (w : World) (e : Ending) (w' : World) : Prop := e = .returned (.float .f32 R) ∧ Below w.heap.size w w'
theorem PB_zero : PB 0 := ⟨by omega, by decide +kernel, by omega⟩
theorem mid_num {a b : Nat} (ha : PB a) (hb : PB b) : isNaN .f32 (midI a b) = false := by
  have h0 : PB (fbin .add .f32 0 a) := by
    refine ⟨word_i _ _ _, num_addP PB_zero ha, ?_⟩
    rcases eqz_zero ha.1 ha.2.1 with e | ⟨_, e | e⟩
    · rw [← e]; exact ha.2.2
    · rw [e]; omega
    · rw [e]; omega
  have h1 := num_addP h0 hb
  rw [midI, ← half_eq]
  exact nan_mul_fin ⟨_, _, _, read_halfW, by decide⟩ h1
set_option maxRecDepth 100000 in
set_option maxHeartbeats 1600000 in
theorem half7_any (a b : Nat) (w : World) (ha : PB a) (hb : PB b) : Calls Try.prog 93 #[.float .f32 a, .float .f32 b] w (HalRet (midI a b) w) := by
  have hs : sumW (duo a b) 2 = fbin .add .f32 (fbin .add .f32 0 a) b := rfl
  obtain ⟨S, hS⟩ : ∃ S, S = fbin .add .f32 (fbin .add .f32 0 a) b := ⟨_, rfl⟩
  rw [← hS] at hs
  have HS := Lib.hid (SumNumbers_any (some ⟨w.heap.size, 0, none⟩) 2 2 (duo a b) (w.alloc (.cells #[.float .f32 a, .float .f32 b] 31)) (rd_two w a b _) (by omega))
  rw [hs] at HS
  have hp := fun op => fbin_pick_l op .f32
  obtain ⟨R, hR⟩ : ∃ R, R = midI a b := ⟨_, rfl⟩
  have hR' : fbin .quo .f32 S 1073741824 = R := by rw [hR, hS]; rfl
  have hn := mid_num ha hb
  rw [← hR] at hn ⊢
  have pn := fun s => pick_num (s := s) hn
  clear hs hS hR hn ha hb
  go_enter Try.func93, Try.ntmps93
  go_wp2_with (first | ((with_reducible refine wpL_fbin ?_); refine ⟨_, _, _, rfl, rfl, rfl, fun s n => ?_⟩) | (go_at_call 81; refine HS.out.mono ?_; rintro e w' ⟨s', m', rfl, rfl⟩))
  go_ret
  refine ⟨rfl, ?_⟩
  (repeat (first | with_reducible exact Below.refl _ _ | with_reducible refine Below.drewN ?_ _ | with_reducible refine Below.setCell ?_ (by simp; try omega) _ | with_reducible refine Below.alloc ?_ (by simp; try omega) _))
end Go.Proofs.Ytehlflldnihamaa
