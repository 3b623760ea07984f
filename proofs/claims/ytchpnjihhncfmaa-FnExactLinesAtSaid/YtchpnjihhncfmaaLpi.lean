/- How high one line is at a place: as the program tells it. -/
import Derived.Test.YtchpnjihhncfmaaLpk
import Derived.Test.YtchpnjihhncfmaaSmN
import Derived.Deep.QuietTactic
import Derived.Deep.RegionLaw
import Derived.BigQuiet
namespace Go.Proofs.Ytchpnjihhncfmaa
open Go Go.ChangeShapes Go.WideShapes Go.ChangeAt Go.RowKit

def FltI (R : Nat) (w : World) (e : Ending) (w' : World) : Prop := ∃ s m, e = .returned (.float .f32 (pick .f32 R s)) ∧ w' = w.drewN m
def FltZ (R : Nat) (w : World) (e : Ending) (w' : World) : Prop := ∃ s, e = .returned (.float .f32 (pick .f32 R s)) ∧ Below w.heap.size w w'
set_option maxRecDepth 100000 in
set_option maxHeartbeats 1600000 in
theorem bell_any (hh U Q N E B : Nat) (w : World) (hQ : fbin .mul .f32 U U = Q) (nQ : isNaN .f32 Q = false) (hN : fbin .sub .f32 0 Q = N) (nN : NegX N) (hE : E = expF N) (hB : fbin .mul .f32 hh E = B) :
    Calls Try.prog 190 #[.float .f32 hh, .float .f32 U] w (FltI B w) := by
  have pQ := fun s => pick_num (s := s) nQ
  have pN := fun s => pick_num (s := s) (negX_num nN)
  have HE := Lib.hid (show ∀ w, Calls Try.prog 218 #[.float .f32 N] w (fun e w' => e = .returned (.float .f32 E) ∧ ∃ n, w' = w.drewN n) from fun w => implExp_any N nN E (Lib.hid hE) w)
  clear nQ nN hE
  go_enter Try.func190, Try.ntmps190
  go_wp2_with (first | ((with_reducible refine wpL_fbin ?_); refine ⟨_, _, _, rfl, rfl, rfl, fun s n => ?_⟩) | (go_at_call 218; refine (HE.out _).mono ?_; rintro e w' ⟨rfl, q, rfl⟩))
  go_ret
  exact ⟨_, _, rfl, rfl⟩
set_option maxRecDepth 100000 in
set_option maxHeartbeats 1600000 in
theorem hill_any (hh U Q J H : Nat) (w : World) (hQ : fbin .mul .f32 U U = Q) (nQ : isNaN .f32 Q = false) (hJ : fbin .add .f32 1065353216 Q = J) (nJ : isNaN .f32 J = false) (hH : fbin .quo .f32 hh J = H) :
    Calls Try.prog 191 #[.float .f32 hh, .float .f32 U] w (FltI H w) := by
  have pQ := fun s => pick_num (s := s) nQ
  have pJ := fun s => pick_num (s := s) nJ
  clear nQ nJ
  go_enter Try.func191, Try.ntmps191
  go_wp2_with ((with_reducible refine wpL_fbin ?_); refine ⟨_, _, _, rfl, rfl, rfl, fun s n => ?_⟩)
  go_ret
  exact ⟨_, _, rfl, rfl⟩
set_option maxRecDepth 100000 in
set_option maxHeartbeats 1600000 in
theorem half_any (a b R : Nat) (w : World) (hR : R = fbin .quo .f32 (fbin .add .f32 (fbin .add .f32 0 a) b) 1073741824) :
    Calls Try.prog 219 #[.float .f32 a, .float .f32 b] w (FltZ R w) := by
  have hs : sumW (duo a b) 2 = fbin .add .f32 (fbin .add .f32 0 a) b := rfl
  obtain ⟨S, hS⟩ : ∃ S, S = fbin .add .f32 (fbin .add .f32 0 a) b := ⟨_, rfl⟩
  rw [← hS] at hs hR
  have HS := Lib.hid (SumNumbers_any (some ⟨w.heap.size, 0, none⟩) 2 2 (duo a b) (w.alloc (.cells #[.float .f32 a, .float .f32 b] 23)) (rd_two w a b _) (by omega))
  rw [hs] at HS
  have hp := fun op => fbin_pick_l op .f32
  have hR' := hR.symm
  clear hs hS hR
  go_enter Try.func219, Try.ntmps219
  go_wp2_with (first | ((with_reducible refine wpL_fbin ?_); refine ⟨_, _, _, rfl, rfl, rfl, fun s n => ?_⟩) | (go_at_call 208; refine HS.out.mono ?_; rintro e w' ⟨s', m', rfl, rfl⟩))
  go_ret
  refine ⟨_, rfl, ?_⟩
  (repeat (first | with_reducible exact Below.refl _ _ | with_reducible refine Below.drewN ?_ _ | with_reducible refine Below.setCell ?_ (by simp; try omega) _ | with_reducible refine Below.alloc ?_ (by simp; try omega) _))
set_option maxRecDepth 100000 in
set_option maxHeartbeats 1600000 in
theorem roof_any (hh U R : Nat) (w : World) (hU : U < 4294967296) (nU : isNaN .f32 U = false) (hR : R = roofW hh (U % 2147483648)) :
    Calls Try.prog 193 #[.float .f32 hh, .float .f32 U] w (FltI R w) := by
  have hm := fun ts t w => max_abs hU nU ts t w
  obtain ⟨V, hV⟩ : ∃ V, V = U % 2147483648 := ⟨_, rfl⟩
  obtain ⟨M, hM⟩ : ∃ M, Op.negFloat .f32 U = M := ⟨_, rfl⟩
  rw [← hV, hM] at hm
  rw [← hV] at hR
  clear hV hU nU
  have hp := fun op => fbin_pick_r op .f32
  cases g : gtO V
  · have hg : (FloatKind.f32.format.order V 1065353216 == some .gt) = false := g
    have HR := Lib.hid (show ∀ s m, FltI R w (.returned (.float .f32 (pick .f32 (fbin .mul .f32 hh (fbin .sub .f32 1065353216 V)) s))) (w.drewN m) from fun s m => ⟨s, m, by rw [hR, roofW, g, if_neg (by simp)], rfl⟩)
    clear g hR
    go_enter Try.func193, Try.ntmps193
    go_wp2_with (first | ((with_reducible refine wpL_fbin ?_); refine ⟨_, _, _, rfl, rfl, rfl, fun s n => ?_⟩) | ((with_reducible refine wpL_fneg ?_); refine ⟨_, _, rfl, ?_⟩))
    go_ret
    exact HR.out _ _
  · have hg : (FloatKind.f32.format.order V 1065353216 == some .gt) = true := g
    have HR := Lib.hid (show ∀ m, FltI R w (.returned (.float .f32 0)) (w.drewN m) from fun m => ⟨0, m, by rw [hR, roofW, g, if_pos rfl, pick_num (by decide +kernel)], rfl⟩)
    clear g hR
    go_enter Try.func193, Try.ntmps193
    go_wp2_with (first | ((with_reducible refine wpL_fbin ?_); refine ⟨_, _, _, rfl, rfl, rfl, fun s n => ?_⟩) | ((with_reducible refine wpL_fneg ?_); refine ⟨_, _, rfl, ?_⟩))
    go_ret
    exact HR.out 0
end Go.Proofs.Ytchpnjihhncfmaa
