/- How high one line is at a place: as the program tells it, kind by kind. -/
import Derived.Test.YtchpnjihhncfmaaLpl
import Derived.Deep.RegionHeld3
namespace Go.Proofs.Ytchpnjihhncfmaa
open Go Go.ChangeShapes Go.WideShapes Go.ChangeAt Go.RowKit

def LnRet (R : Nat) (ok : Bool) (w : World) (e : Ending) (w' : World) : Prop := ∃ s, e = .returned (.tuple #[.float .f32 (pick .f32 R s), .bool ok]) ∧ Below w.heap.size w w'
set_option maxRecDepth 100000 in
set_option maxHeartbeats 6400000 in
theorem LineAt_0 (p hh d x : Nat) (w : World) (hl : okLin p hh d 0 = true) (hx : isFin .f32 x = true) (A U Q N E B : Nat) (hA : fbin .sub .f32 x p = A) (nA : isNaN .f32 A = false) (hU : fbin .quo .f32 A d = U) (nU : isNaN .f32 U = false)
    (hQ : fbin .mul .f32 U U = Q) (nQ : isNaN .f32 Q = false) (hN : fbin .sub .f32 0 Q = N) (nN : NegX N) (hE : E = expF N) (hB : fbin .mul .f32 hh E = B) :
    Calls Try.prog 93 #[.agg #[.float .f32 p, .float .f32 hh, .float .f32 d, .int .i64 0], .float .f32 x] w (LnRet (numQ B) (isFin .f32 B) w) := by
  have HA := lnBox_alloc w p hh d 0 105
  have HBx := (Below.refl _ w).alloc (Nat.le_refl _) (.cells #[.float .f32 p, .float .f32 hh, .float .f32 d, .int .i64 0] 105)
  have HL := Lib.hid (fun w => implVL_any p hh d 0 w)
  rw [hl] at HL
  have HS := Lib.hid shape0_any
  have HF := Lib.hid (fun w => bell_any hh U Q N E B w hQ nQ hN nN hE hB)
  have HQ := Lib.hid (fun s w => numI_any B s w)
  have q1 := fun t => run_numop (op := .sub) rfl t _ _ _ hA nA
  have q2 := fun t => run_numop (op := .quo) rfl t _ _ _ hU nU
  have HR := Lib.hid (show ∀ s w', Below w.heap.size w w' → LnRet (numQ B) (isFin .f32 B) w (.returned (.tuple #[.float .f32 (pick .f32 (numQ B) s), .bool (isFin .f32 B)])) w' from fun s w' hb => ⟨s, rfl, hb⟩)
  clear hl hA nA hU nU hQ nQ hN nN hE hB
  go_enter Try.func93, Try.ntmps93
  go_wp2_with (first | (go_at_call 152; refine (HL.out _).mono ?_; rintro e w1 ⟨rfl, B0⟩; obtain ⟨p0, p1, p2, p3⟩ := HA.below B0; have HE := HBx.trans (B0.mono HBx.size); have hz : w.heap.size < w1.heap.size := World.block_lt_of_cell? w1 _ p0; clear HA HBx B0) | (first | (go_at_call 81; refine (IsFinite_any _ _).mono ?_; rintro e w' ⟨rfl, q, rfl⟩)))
  go_region_held3 (fun w' => w'.cell? ⟨w.heap.size, 0, none⟩ = some (.float .f32 p) ∧ w'.cell? ⟨w.heap.size, 1, none⟩ = some (.float .f32 hh) ∧ w'.cell? ⟨w.heap.size, 2, none⟩ = some (.float .f32 d) ∧ w'.cell? ⟨w.heap.size, 3, none⟩ = some (.int .i64 0)) (go_keep) (first | (go_simp; go_at_call 153; refine (HS.out _).mono ?_; rintro e w' ⟨rfl, rfl⟩) | (go_simp; go_at_call 190; refine (HF.out _).mono ?_; rintro e w' ⟨s', m', rfl, rfl⟩) | (go_simp; go_at_call 87; refine (HQ.out _ _).mono ?_; rintro e w' ⟨s2, m2, rfl, rfl⟩))
  all_goals go_wp2
  all_goals go_ret2
  all_goals refine HR.out _ _ (HE.trans ?_)
  all_goals refine Below.mono ?_ HE.size
  all_goals (repeat (first | with_reducible exact Below.refl _ _ | with_reducible refine Below.drewN ?_ _ | with_reducible refine Below.setCell ?_ (by simp; try omega) _ | with_reducible refine Below.alloc ?_ (by simp; try omega) _))
set_option maxRecDepth 100000 in
set_option maxHeartbeats 6400000 in
theorem LineAt_1 (p hh d x : Nat) (w : World) (hl : okLin p hh d 1 = true) (hx : isFin .f32 x = true) (A U Q J H : Nat) (hA : fbin .sub .f32 x p = A) (nA : isNaN .f32 A = false) (hU : fbin .quo .f32 A d = U) (nU : isNaN .f32 U = false)
    (hQ : fbin .mul .f32 U U = Q) (nQ : isNaN .f32 Q = false) (hJ : fbin .add .f32 1065353216 Q = J) (nJ : isNaN .f32 J = false) (hH : fbin .quo .f32 hh J = H) :
    Calls Try.prog 93 #[.agg #[.float .f32 p, .float .f32 hh, .float .f32 d, .int .i64 1], .float .f32 x] w (LnRet (numQ H) (isFin .f32 H) w) := by
  have HA := lnBox_alloc w p hh d 1 105
  have HBx := (Below.refl _ w).alloc (Nat.le_refl _) (.cells #[.float .f32 p, .float .f32 hh, .float .f32 d, .int .i64 1] 105)
  have HL := Lib.hid (fun w => implVL_any p hh d 1 w)
  rw [hl] at HL
  have HS := Lib.hid shape1_any
  have HF := Lib.hid (fun w => hill_any hh U Q J H w hQ nQ hJ nJ hH)
  have HQ := Lib.hid (fun s w => numI_any H s w)
  have q1 := fun t => run_numop (op := .sub) rfl t _ _ _ hA nA
  have q2 := fun t => run_numop (op := .quo) rfl t _ _ _ hU nU
  have HR := Lib.hid (show ∀ s w', Below w.heap.size w w' → LnRet (numQ H) (isFin .f32 H) w (.returned (.tuple #[.float .f32 (pick .f32 (numQ H) s), .bool (isFin .f32 H)])) w' from fun s w' hb => ⟨s, rfl, hb⟩)
  clear hl hA nA hU nU hQ nQ hJ nJ hH
  go_enter Try.func93, Try.ntmps93
  go_wp2_with (first | (go_at_call 152; refine (HL.out _).mono ?_; rintro e w1 ⟨rfl, B0⟩; obtain ⟨p0, p1, p2, p3⟩ := HA.below B0; have HE := HBx.trans (B0.mono HBx.size); have hz : w.heap.size < w1.heap.size := World.block_lt_of_cell? w1 _ p0; clear HA HBx B0) | (first | (go_at_call 81; refine (IsFinite_any _ _).mono ?_; rintro e w' ⟨rfl, q, rfl⟩)))
  go_region_held3 (fun w' => w'.cell? ⟨w.heap.size, 0, none⟩ = some (.float .f32 p) ∧ w'.cell? ⟨w.heap.size, 1, none⟩ = some (.float .f32 hh) ∧ w'.cell? ⟨w.heap.size, 2, none⟩ = some (.float .f32 d) ∧ w'.cell? ⟨w.heap.size, 3, none⟩ = some (.int .i64 1)) (go_keep) (first | (go_simp; go_at_call 153; refine (HS.out _).mono ?_; rintro e w' ⟨rfl, rfl⟩) | (go_simp; go_at_call 191; refine (HF.out _).mono ?_; rintro e w' ⟨s', m', rfl, rfl⟩) | (go_simp; go_at_call 87; refine (HQ.out _ _).mono ?_; rintro e w' ⟨s2, m2, rfl, rfl⟩))
  all_goals go_wp2
  all_goals go_ret2
  all_goals refine HR.out _ _ (HE.trans ?_)
  all_goals refine Below.mono ?_ HE.size
  all_goals (repeat (first | with_reducible exact Below.refl _ _ | with_reducible refine Below.drewN ?_ _ | with_reducible refine Below.setCell ?_ (by simp; try omega) _ | with_reducible refine Below.alloc ?_ (by simp; try omega) _))
set_option maxRecDepth 100000 in
set_option maxHeartbeats 6400000 in
theorem LineAt_3 (p hh d x : Nat) (w : World) (hl : okLin p hh d 3 = true) (hx : isFin .f32 x = true) (A U R : Nat) (hA : fbin .sub .f32 x p = A) (nA : isNaN .f32 A = false) (hU : fbin .quo .f32 A d = U) (nU : isNaN .f32 U = false)
    (hUl : U < 4294967296) (hR : R = roofW hh (U % 2147483648)) :
    Calls Try.prog 93 #[.agg #[.float .f32 p, .float .f32 hh, .float .f32 d, .int .i64 3], .float .f32 x] w (LnRet (numQ R) (isFin .f32 R) w) := by
  have HA := lnBox_alloc w p hh d 3 105
  have HBx := (Below.refl _ w).alloc (Nat.le_refl _) (.cells #[.float .f32 p, .float .f32 hh, .float .f32 d, .int .i64 3] 105)
  have HL := Lib.hid (fun w => implVL_any p hh d 3 w)
  rw [hl] at HL
  have HS := Lib.hid shape3_any
  have HF := Lib.hid (fun w => roof_any hh U R w hUl nU hR)
  have HQ := Lib.hid (fun s w => numI_any R s w)
  have q1 := fun t => run_numop (op := .sub) rfl t _ _ _ hA nA
  have q2 := fun t => run_numop (op := .quo) rfl t _ _ _ hU nU
  have HR := Lib.hid (show ∀ s w', Below w.heap.size w w' → LnRet (numQ R) (isFin .f32 R) w (.returned (.tuple #[.float .f32 (pick .f32 (numQ R) s), .bool (isFin .f32 R)])) w' from fun s w' hb => ⟨s, rfl, hb⟩)
  clear hl hA nA hU nU hUl hR
  go_enter Try.func93, Try.ntmps93
  go_wp2_with (first | (go_at_call 152; refine (HL.out _).mono ?_; rintro e w1 ⟨rfl, B0⟩; obtain ⟨p0, p1, p2, p3⟩ := HA.below B0; have HE := HBx.trans (B0.mono HBx.size); have hz : w.heap.size < w1.heap.size := World.block_lt_of_cell? w1 _ p0; clear HA HBx B0) | (first | (go_at_call 81; refine (IsFinite_any _ _).mono ?_; rintro e w' ⟨rfl, q, rfl⟩)))
  go_region_held3 (fun w' => w'.cell? ⟨w.heap.size, 0, none⟩ = some (.float .f32 p) ∧ w'.cell? ⟨w.heap.size, 1, none⟩ = some (.float .f32 hh) ∧ w'.cell? ⟨w.heap.size, 2, none⟩ = some (.float .f32 d) ∧ w'.cell? ⟨w.heap.size, 3, none⟩ = some (.int .i64 3)) (go_keep) (first | (go_simp; go_at_call 153; refine (HS.out _).mono ?_; rintro e w' ⟨rfl, rfl⟩) | (go_simp; go_at_call 193; refine (HF.out _).mono ?_; rintro e w' ⟨s', m', rfl, rfl⟩) | (go_simp; go_at_call 87; refine (HQ.out _ _).mono ?_; rintro e w' ⟨s2, m2, rfl, rfl⟩))
  all_goals go_wp2
  all_goals go_ret2
  all_goals refine HR.out _ _ (HE.trans ?_)
  all_goals refine Below.mono ?_ HE.size
  all_goals (repeat (first | with_reducible exact Below.refl _ _ | with_reducible refine Below.drewN ?_ _ | with_reducible refine Below.setCell ?_ (by simp; try omega) _ | with_reducible refine Below.alloc ?_ (by simp; try omega) _))
end Go.Proofs.Ytchpnjihhncfmaa
