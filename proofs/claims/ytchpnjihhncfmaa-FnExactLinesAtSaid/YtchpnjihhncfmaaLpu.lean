/- How high one line is at a place: as the program tells it, kind by kind. -/
import Derived.Test.YtchpnjihhncfmaaLpt
import Derived.Deep.RegionHeld3
namespace Go.Proofs.Ytchpnjihhncfmaa
open Go Go.ChangeShapes Go.WideShapes Go.ChangeAt Go.RowKit

set_option maxRecDepth 100000 in
set_option maxHeartbeats 6400000 in
theorem LineAt_2 (p hh d x : Nat) (w : World) (hl : okLin p hh d 2 = true) (hx : isFin .f32 x = true) (A U Q N E B J H R : Nat) (hA : fbin .sub .f32 x p = A) (nA : isNaN .f32 A = false) (hU : fbin .quo .f32 A d = U) (nU : isNaN .f32 U = false)
    (hQ : fbin .mul .f32 U U = Q) (nQ : isNaN .f32 Q = false) (hN : fbin .sub .f32 0 Q = N) (nN : NegX N) (hE : E = expF N) (hB : fbin .mul .f32 hh E = B) (hJ : fbin .add .f32 1065353216 Q = J) (nJ : isNaN .f32 J = false) (hH : fbin .quo .f32 hh J = H) (hR : R = fbin .quo .f32 (fbin .add .f32 (fbin .add .f32 0 B) H) 1073741824) :
    Calls Try.prog 93 #[.agg #[.float .f32 p, .float .f32 hh, .float .f32 d, .int .i64 2], .float .f32 x] w (LnRet (numQ R) (isFin .f32 R) w) := by
  have HA := lnBox_alloc w p hh d 2 105
  have HBx := (Below.refl _ w).alloc (Nat.le_refl _) (.cells #[.float .f32 p, .float .f32 hh, .float .f32 d, .int .i64 2] 105)
  have HL := Lib.hid (fun w => implVL_any p hh d 2 w)
  rw [hl] at HL
  have HS := Lib.hid shape2_any
  have HF := Lib.hid (fun w => both_any hh U Q N E B J H R w hQ nQ hN nN hE hB hJ nJ hH hR)
  have HQ := Lib.hid (fun s w => numI_any R s w)
  have q1 := fun t => run_numop (op := .sub) rfl t _ _ _ hA nA
  have q2 := fun t => run_numop (op := .quo) rfl t _ _ _ hU nU
  have HR := Lib.hid (show ∀ s w', Below w.heap.size w w' → LnRet (numQ R) (isFin .f32 R) w (.returned (.tuple #[.float .f32 (pick .f32 (numQ R) s), .bool (isFin .f32 R)])) w' from fun s w' hb => ⟨s, rfl, hb⟩)
  clear hl hA nA hU nU hQ nQ hN nN hE hB hJ nJ hH hR
  go_enter Try.func93, Try.ntmps93
  go_wp2_with (first | (go_at_call 152; refine (HL.out _).mono ?_; rintro e w1 ⟨rfl, B0⟩; have HL1 := HA.below B0; obtain ⟨p0, p1, p2, p3⟩ := id HL1; have HE := HBx.trans (B0.mono HBx.size); have hz : w.heap.size < w1.heap.size := World.block_lt_of_cell? w1 _ p0; clear HA HBx B0) | (first | (go_at_call 81; refine (IsFinite_any _ _).mono ?_; rintro e w' ⟨rfl, q, rfl⟩)))
  go_region_held3 (fun w' => w'.cell? ⟨w.heap.size, 0, none⟩ = some (.float .f32 p) ∧ w'.cell? ⟨w.heap.size, 1, none⟩ = some (.float .f32 hh) ∧ w'.cell? ⟨w.heap.size, 2, none⟩ = some (.float .f32 d) ∧ w'.cell? ⟨w.heap.size, 3, none⟩ = some (.int .i64 2)) (go_keep) (first | (go_simp; go_at_call 153; refine (HS.out _).mono ?_; rintro e w' ⟨rfl, rfl⟩) | (go_simp; go_at_call 192; refine (HF.out _).mono ?_; rintro e w' ⟨s', rfl, hb⟩; obtain ⟨q0, q1, q2, q3⟩ := (show LnBox (w1.drewN _) _ _ _ _ _ from HL1).below hb) | (go_simp; go_at_call 87; refine (HQ.out _ _).mono ?_; rintro e w' ⟨s2, m2, rfl, rfl⟩))
  all_goals go_wp2
  all_goals go_ret2
  all_goals refine HR.out _ _ (HE.trans ?_)
  all_goals refine Below.mono ?_ HE.size
  all_goals (repeat (first | with_reducible exact Below.refl _ _ | with_reducible refine Below.drewN ?_ _ | with_reducible refine Below.setCell ?_ (by simp; try omega) _ | with_reducible refine Below.alloc ?_ (by simp; try omega) _))
  all_goals exact Below.trans (Below.drewN (Below.refl _ _) _) hb
/-- How high one line is at a place: what the program gives for every line that can be and every place. -/
theorem LineAt_any (l : Ln) (x : Nat) (w : World) (hl : okLn l = true) (hx : isFin .f32 x = true) (R : Nat) (hR : Hid (R = lnI l x)) :
    Calls Try.prog 93 #[.agg #[.float .f32 l.p, .float .f32 l.h, .float .f32 l.d, .int .i64 l.k], .float .f32 x] w (LnRet (numQ R) (isFin .f32 R) w) := by
  obtain ⟨n1, n2, n3, n4, n5, n6, n7⟩ := ln_facts hl hx
  obtain ⟨_, _, _, k0, k3⟩ := okLin_at hl
  have hR := hR.out
  obtain ⟨p, hh, d, k⟩ := l
  dsimp only at k0 k3
  rcases (by omega : k = 0 ∨ k = 1 ∨ k = 2 ∨ k = 3) with rfl | rfl | rfl | rfl
  · rw [lnI, if_pos rfl] at hR
    subst hR
    exact LineAt_0 p hh d x w hl hx _ _ _ _ _ _ rfl n1 rfl n2 rfl n3 rfl n4 rfl rfl
  · rw [lnI, if_neg (by simp), if_pos rfl] at hR
    subst hR
    exact LineAt_1 p hh d x w hl hx _ _ _ _ _ rfl n1 rfl n2 rfl n3 rfl n6 rfl
  · rw [lnI, if_neg (by simp), if_neg (by simp), if_pos rfl] at hR
    exact LineAt_2 p hh d x w hl hx _ _ _ _ _ _ _ _ _ rfl n1 rfl n2 rfl n3 rfl n4 rfl rfl rfl n6 rfl hR
  · rw [lnI, if_neg (by simp), if_neg (by simp), if_neg (by simp)] at hR
    exact LineAt_3 p hh d x w hl hx _ _ _ rfl n1 rfl n2 (fbin_lt _ _ _) hR
end Go.Proofs.Ytchpnjihhncfmaa
