/- How high one line is at a place, told if it is finite: as the program tells it. -/
import Derived.Test.YtchpnjihhncfmaaLpi
namespace Go.Proofs.Ytchpnjihhncfmaa
open Go Go.ChangeShapes Go.WideShapes Go.ChangeAt Go.RowKit

set_option maxRecDepth 100000 in
set_option maxHeartbeats 1600000 in
theorem both_any (hh U Q N E B J H R : Nat) (w : World) (hQ : fbin .mul .f32 U U = Q) (nQ : isNaN .f32 Q = false) (hN : fbin .sub .f32 0 Q = N) (nN : NegX N) (hE : E = expF N) (hB : fbin .mul .f32 hh E = B) (hJ : fbin .add .f32 1065353216 Q = J) (nJ : isNaN .f32 J = false) (hH : fbin .quo .f32 hh J = H) (hR : R = fbin .quo .f32 (fbin .add .f32 (fbin .add .f32 0 B) H) 1073741824) :
    Calls Try.prog 192 #[.float .f32 hh, .float .f32 U] w (FltZ R w) := by
  have HB := Lib.hid (fun w => bell_any hh U Q N E B w hQ nQ hN nN hE hB)
  have HH := Lib.hid (fun w => hill_any hh U Q J H w hQ nQ hJ nJ hH)
  have HF := Lib.hid (fun s t w => half_any (pick .f32 B s) (pick .f32 H t) R w (by rw [fbin_pick_r, fbin_pick_r]; exact hR))
  clear hQ nQ hN nN hE hB hJ nJ hH hR
  go_enter Try.func192, Try.ntmps192
  go_wp2_with fail
  refine (HB.out _).mono ?_
  rintro e w1 ⟨s, m, rfl, rfl⟩
  go_wp2_with fail
  refine (HH.out _).mono ?_
  rintro e w1 ⟨s2, m2, rfl, rfl⟩
  go_wp2_with fail
  refine (HF.out _ _ _).mono ?_
  rintro e w1 ⟨s3, rfl, hb⟩
  go_wp2
  go_ret
  exact ⟨_, rfl, Below.trans (Below.drewN (Below.refl _ w) (m + m2)) hb⟩
set_option maxRecDepth 100000 in
set_option maxHeartbeats 1600000 in
theorem shape0_any (w : World) : Calls Try.prog 153 #[.int .i64 0] w fun e w' => e = .returned (.func (.func 190) #[] #[]) ∧ w' = w := by
  have hi : ∀ w : World, (Instr.index 183 (.agg #[.func (.func 190) #[] #[], .func (.func 191) #[] #[], .func (.func 192) #[] #[], .func (.func 193) #[] #[]]) (.int .i64 0)).run Try.prog w = .ok (.func (.func 190) #[] #[]) w := fun _ => by kernel_rfl
  go_enter Try.func153, Try.ntmps153
  go_wp2
  go_ret
  exact ⟨rfl, rfl⟩
set_option maxRecDepth 100000 in
set_option maxHeartbeats 1600000 in
theorem shape1_any (w : World) : Calls Try.prog 153 #[.int .i64 1] w fun e w' => e = .returned (.func (.func 191) #[] #[]) ∧ w' = w := by
  have hi : ∀ w : World, (Instr.index 183 (.agg #[.func (.func 190) #[] #[], .func (.func 191) #[] #[], .func (.func 192) #[] #[], .func (.func 193) #[] #[]]) (.int .i64 1)).run Try.prog w = .ok (.func (.func 191) #[] #[]) w := fun _ => by kernel_rfl
  go_enter Try.func153, Try.ntmps153
  go_wp2
  go_ret
  exact ⟨rfl, rfl⟩
set_option maxRecDepth 100000 in
set_option maxHeartbeats 1600000 in
theorem shape2_any (w : World) : Calls Try.prog 153 #[.int .i64 2] w fun e w' => e = .returned (.func (.func 192) #[] #[]) ∧ w' = w := by
  have hi : ∀ w : World, (Instr.index 183 (.agg #[.func (.func 190) #[] #[], .func (.func 191) #[] #[], .func (.func 192) #[] #[], .func (.func 193) #[] #[]]) (.int .i64 2)).run Try.prog w = .ok (.func (.func 192) #[] #[]) w := fun _ => by kernel_rfl
  go_enter Try.func153, Try.ntmps153
  go_wp2
  go_ret
  exact ⟨rfl, rfl⟩
set_option maxRecDepth 100000 in
set_option maxHeartbeats 1600000 in
theorem shape3_any (w : World) : Calls Try.prog 153 #[.int .i64 3] w fun e w' => e = .returned (.func (.func 193) #[] #[]) ∧ w' = w := by
  have hi : ∀ w : World, (Instr.index 183 (.agg #[.func (.func 190) #[] #[], .func (.func 191) #[] #[], .func (.func 192) #[] #[], .func (.func 193) #[] #[]]) (.int .i64 3)).run Try.prog w = .ok (.func (.func 193) #[] #[]) w := fun _ => by kernel_rfl
  go_enter Try.func153, Try.ntmps153
  go_wp2
  go_ret
  exact ⟨rfl, rfl⟩
end Go.Proofs.Ytchpnjihhncfmaa
