/- For all numbers the program tells how much of a damped vector is held up just where the model does, and the same: for all arguments. -/
import Derived.Test.YtebelikahpnobaaHelP
import Derived.Test.YtebelikahpnobaaNum
import Derived.Test.YtebelikahpnobaaVec
import Derived.Test.YtebelikahpnobaaPushS
import Derived.Test.YtebelikahpnobaaLaw
import Derived.Test.YtebelikahpnobaaArr
namespace Go.Proofs.Ytebelikahpnobaa
open Go Go.ChangeShapes Go.WideShapes Go.ChangeAt Go.RowKit

def tri3 (x y z : Nat) (i : Nat) : Nat := if i = 0 then x else if i = 1 then y else z
theorem made33 (w1 : World) {B g : Nat} (hg : g = w1.heap.size) (hB : B ≤ w1.heap.size) (x y z : Nat) :
    (w1.alloc (.cells #[.float .f32 x, .float .f32 y, .float .f32 z] 22)).ownsRow B 22 1 (.slice (some ⟨g, 0, none⟩) 3 3) 3 (rowOf (tri3 x y z) 3) := by
  subst hg
  exact ⟨rfl, .inr ⟨w1.heap.size, 3, #[.float .f32 x, .float .f32 y, .float .f32 z], rfl, hB, heap_alloc_new w1 _, Nat.le_refl _, by decide, rfl, rfl⟩⟩
theorem cell33 (w1 : World) {g : Nat} (hg : g = w1.heap.size) (x y z q : Nat) :
    ((w1.alloc (.cells #[.float .f32 x, .float .f32 y, .float .f32 z] 22)).drewN q).cell? ⟨g, 2, none⟩ = some (.float .f32 z) :=
  own_cell (own_drew (made33 w1 (B := 0) hg (Nat.zero_le _) x y z) q) (show 2 < 3 by omega)
theorem tri_fin (x y z s t u : Nat) : finL (tri3 (pick .f32 x s) (pick .f32 y t) (pick .f32 z u)) 3 = (isFin .f32 x && isFin .f32 y && isFin .f32 z) := by
  have : finL (tri3 (pick .f32 x s) (pick .f32 y t) (pick .f32 z u)) 3 = (isFin .f32 (pick .f32 x s) && isFin .f32 (pick .f32 y t) && isFin .f32 (pick .f32 z u)) := by
    simp [finL, List.range_succ, tri3, Bool.and_assoc]
  rw [this, isFin_pick, isFin_pick, isFin_pick]
/-- The vector that stays: where there is none. -/
def RestNo (w : World) (e : Ending) (w' : World) : Prop := e = .returned (.tuple #[.slice none 0 0, .bool false]) ∧ Below w.heap.size w w'
/-- Where there is one: its last number. -/
def RestYes (Z : Nat) (w : World) (e : Ending) (w' : World) : Prop := ∃ g cap, e = .returned (.tuple #[.slice (some ⟨g, 0, none⟩) 3 cap, .bool true]) ∧ w'.cell? ⟨g, 2, none⟩ = some (.float .f32 Z) ∧ Below w.heap.size w w'
def okHe (r o p q : Nat) : Bool := isFin .f32 r && isFin .f32 o && isP p && isP q
set_option maxRecDepth 100000 in
set_option maxHeartbeats 3200000 in
theorem implRest_bad (r o p q : Nat) (w : World) (hk : okHe r o p q = false) :
    Calls Try.prog 66 #[.float .f32 r, .float .f32 o, .float .f32 p, .float .f32 q] w (RestNo w) := by
  have hg : finL (duo r o) 2 = (isFin .f32 r && isFin .f32 o) := by simp [finL, List.range_succ, duo]
  cases c1 : finL (duo r o) 2
  · skip
    clear hk hg
    go_enter Try.func66, Try.ntmps66
    go_wp2_with (first | (go_at_call 47; refine (allFinite_any _ _ _ (duo _ _) _ (by exact rd_two' _ _ _ _ (by simp)) (by omega)).mono ?_; rintro e w' ⟨rfl, q, rfl⟩) | (go_at_call 52; refine (isPositive_any _ _).mono ?_; rintro e w' ⟨rfl, q, rfl⟩))
    go_ret2
    refine ⟨rfl, ?_⟩
    (repeat (first | with_reducible exact Below.refl _ _ | with_reducible refine Below.drewN ?_ _ | with_reducible refine Below.setCell ?_ (by simp; try omega) _ | with_reducible refine Below.alloc ?_ (by simp; try omega) _))
  · skip
    cases c2 : isP p
    · skip
      clear hk hg
      go_enter Try.func66, Try.ntmps66
      go_wp2_with (first | (go_at_call 47; refine (allFinite_any _ _ _ (duo _ _) _ (by exact rd_two' _ _ _ _ (by simp)) (by omega)).mono ?_; rintro e w' ⟨rfl, q, rfl⟩) | (go_at_call 52; refine (isPositive_any _ _).mono ?_; rintro e w' ⟨rfl, q, rfl⟩))
      go_ret2
      refine ⟨rfl, ?_⟩
      (repeat (first | with_reducible exact Below.refl _ _ | with_reducible refine Below.drewN ?_ _ | with_reducible refine Below.setCell ?_ (by simp; try omega) _ | with_reducible refine Below.alloc ?_ (by simp; try omega) _))
    · skip
      cases c3 : isP q
      · skip
        clear hk hg
        go_enter Try.func66, Try.ntmps66
        go_wp2_with (first | (go_at_call 47; refine (allFinite_any _ _ _ (duo _ _) _ (by exact rd_two' _ _ _ _ (by simp)) (by omega)).mono ?_; rintro e w' ⟨rfl, q, rfl⟩) | (go_at_call 52; refine (isPositive_any _ _).mono ?_; rintro e w' ⟨rfl, q, rfl⟩))
        go_ret2
        refine ⟨rfl, ?_⟩
        (repeat (first | with_reducible exact Below.refl _ _ | with_reducible refine Below.drewN ?_ _ | with_reducible refine Below.setCell ?_ (by simp; try omega) _ | with_reducible refine Below.alloc ?_ (by simp; try omega) _))
      · skip
        exfalso
        rw [okHe, ← hg, c1, c2, c3] at hk
        cases hk
set_option maxRecDepth 100000 in
set_option maxHeartbeats 3200000 in
theorem specRest_bad (r o p q : Nat) (w : World) (hk : okHe r o p q = false) :
    Calls Try.prog 65 #[.float .f32 r, .float .f32 o, .float .f32 p, .float .f32 q] w (RestNo w) := by
  cases c1 : isFin .f32 r
  · skip
    clear hk
    go_enter Try.func65, Try.ntmps65
    go_wp2_with (first | (go_at_call 58; refine (l01Finite_any _ _).mono ?_; rintro e w' ⟨rfl, q, rfl⟩) | (go_at_call 50; refine (l02Above_any _ _).mono ?_; rintro e w' ⟨rfl, q, rfl⟩))
    go_ret2
    refine ⟨rfl, ?_⟩
    (repeat (first | with_reducible exact Below.refl _ _ | with_reducible refine Below.drewN ?_ _ | with_reducible refine Below.setCell ?_ (by simp; try omega) _ | with_reducible refine Below.alloc ?_ (by simp; try omega) _))
  · skip
    cases c2 : isFin .f32 o
    · skip
      clear hk
      go_enter Try.func65, Try.ntmps65
      go_wp2_with (first | (go_at_call 58; refine (l01Finite_any _ _).mono ?_; rintro e w' ⟨rfl, q, rfl⟩) | (go_at_call 50; refine (l02Above_any _ _).mono ?_; rintro e w' ⟨rfl, q, rfl⟩))
      go_ret2
      refine ⟨rfl, ?_⟩
      (repeat (first | with_reducible exact Below.refl _ _ | with_reducible refine Below.drewN ?_ _ | with_reducible refine Below.setCell ?_ (by simp; try omega) _ | with_reducible refine Below.alloc ?_ (by simp; try omega) _))
    · skip
      cases c3 : isP p
      · skip
        clear hk
        go_enter Try.func65, Try.ntmps65
        go_wp2_with (first | (go_at_call 58; refine (l01Finite_any _ _).mono ?_; rintro e w' ⟨rfl, q, rfl⟩) | (go_at_call 50; refine (l02Above_any _ _).mono ?_; rintro e w' ⟨rfl, q, rfl⟩))
        go_ret2
        refine ⟨rfl, ?_⟩
        (repeat (first | with_reducible exact Below.refl _ _ | with_reducible refine Below.drewN ?_ _ | with_reducible refine Below.setCell ?_ (by simp; try omega) _ | with_reducible refine Below.alloc ?_ (by simp; try omega) _))
      · skip
        cases c4 : isP q
        · skip
          clear hk
          go_enter Try.func65, Try.ntmps65
          go_wp2_with (first | (go_at_call 58; refine (l01Finite_any _ _).mono ?_; rintro e w' ⟨rfl, q, rfl⟩) | (go_at_call 50; refine (l02Above_any _ _).mono ?_; rintro e w' ⟨rfl, q, rfl⟩))
          go_ret2
          refine ⟨rfl, ?_⟩
          (repeat (first | with_reducible exact Below.refl _ _ | with_reducible refine Below.drewN ?_ _ | with_reducible refine Below.setCell ?_ (by simp; try omega) _ | with_reducible refine Below.alloc ?_ (by simp; try omega) _))
        · skip
          exfalso
          rw [okHe, c1, c2, c3, c4] at hk
          cases hk
set_option maxRecDepth 100000 in
set_option maxHeartbeats 6400000 in
theorem implRest_no (r o p q : Nat) (w : World) (hk : okHe r o p q = true) (A W X Y Z : Nat) (hA : A = heA o q) (hW : W = heW o q) (hX : X = heXi r o p q) (hY : Y = heYi r o p q) (hZ : Z = heZ r o p q) (ho : Hid (false = (isFin .f32 X && isFin .f32 Y && isFin .f32 Z))) :
    Calls Try.prog 66 #[.float .f32 r, .float .f32 o, .float .f32 p, .float .f32 q] w (RestNo w) := by
  have hg : finL (duo r o) 2 = true := by
    simp [okHe] at hk
    simp [finL, List.range_succ, duo, hk]
  have c2 : isP p = true := by simp [okHe] at hk; simp [hk]
  have c3 : isP q = true := by simp [okHe] at hk; simp [hk]
  have eA : fbin .quo .f32 o q = A := hA.symm
  have eW : fbin .add .f32 1065353216 (fbin .mul .f32 A A) = W := by rw [hA, hW]; rfl
  have eZ : fbin .quo .f32 W (fbin .add .f32 W (fbin .quo .f32 (fbin .mul .f32 r r) (fbin .mul .f32 p q))) = Z := by rw [hW, hZ]; rfl
  have eY : fbin .quo .f32 (fbin .sub .f32 0 (fbin .mul .f32 (fbin .quo .f32 r q) Z)) W = Y := by rw [hW, hZ, hY]; rfl
  have eX : fbin .sub .f32 0 (fbin .mul .f32 A Y) = X := by rw [hA, hX, hY]; rfl
  have hp := fun op => fbin_pick_l op .f32
  have hq := fun op => fbin_pick_r op .f32
  clear hk hA hW hX hY hZ
  have HT := Lib.hid (fun s t u => (tri_fin X Y Z s t u).trans ho.out.symm)
  go_enter Try.func66, Try.ntmps66
  go_wp2_with (first | (first | ((with_reducible refine wpL_fbin ?_); refine ⟨_, _, _, rfl, rfl, rfl, fun s n => ?_⟩) | (go_at_call 47; refine (allFinite_any _ _ _ (duo _ _) _ (by exact rd_two' _ _ _ _ (by simp)) (by omega)).mono ?_; rintro e w' ⟨rfl, q, rfl⟩) | (go_at_call 52; refine (isPositive_any _ _).mono ?_; rintro e w' ⟨rfl, q, rfl⟩)) | (go_at_call 62; refine (vecIf_any _ w.heap.size 3 (tri3 _ _ _) _ (by exact made33 _ (by simp) (by simp) _ _ _) (by omega)).mono ?_; rw [HT.out]; rintro e w' ⟨rfl, q', rfl⟩))
  go_ret2
  refine ⟨rfl, ?_⟩
  (repeat (first | with_reducible exact Below.refl _ _ | with_reducible refine Below.drewN ?_ _ | with_reducible refine Below.setCell ?_ (by simp; try omega) _ | with_reducible refine Below.alloc ?_ (by simp; try omega) _))
set_option maxRecDepth 100000 in
set_option maxHeartbeats 6400000 in
theorem implRest_yes (r o p q : Nat) (w : World) (hk : okHe r o p q = true) (A W X Y Z : Nat) (hA : A = heA o q) (hW : W = heW o q) (hX : X = heXi r o p q) (hY : Y = heYi r o p q) (hZ : Z = heZ r o p q) (ho : Hid (true = (isFin .f32 X && isFin .f32 Y && isFin .f32 Z))) :
    Calls Try.prog 66 #[.float .f32 r, .float .f32 o, .float .f32 p, .float .f32 q] w (RestYes Z w) := by
  have hg : finL (duo r o) 2 = true := by
    simp [okHe] at hk
    simp [finL, List.range_succ, duo, hk]
  have c2 : isP p = true := by simp [okHe] at hk; simp [hk]
  have c3 : isP q = true := by simp [okHe] at hk; simp [hk]
  have eA : fbin .quo .f32 o q = A := hA.symm
  have eW : fbin .add .f32 1065353216 (fbin .mul .f32 A A) = W := by rw [hA, hW]; rfl
  have eZ : fbin .quo .f32 W (fbin .add .f32 W (fbin .quo .f32 (fbin .mul .f32 r r) (fbin .mul .f32 p q))) = Z := by rw [hW, hZ]; rfl
  have eY : fbin .quo .f32 (fbin .sub .f32 0 (fbin .mul .f32 (fbin .quo .f32 r q) Z)) W = Y := by rw [hW, hZ, hY]; rfl
  have eX : fbin .sub .f32 0 (fbin .mul .f32 A Y) = X := by rw [hA, hX, hY]; rfl
  have hp := fun op => fbin_pick_l op .f32
  have hq := fun op => fbin_pick_r op .f32
  clear hk hA hW hX hY hZ
  have hz : ∀ s, pick .f32 Z s = Z := fun s => pick_num (num_fin (by
    have := ho.out
    cases h1 : isFin .f32 Z
    · rw [h1, Bool.and_false] at this; cases this
    · rfl)) s
  have HT := Lib.hid (fun s t => show finL (tri3 (pick .f32 X s) (pick .f32 Y t) Z) 3 = true by
    have := (tri_fin X Y Z s t 0).trans ho.out.symm
    rwa [hz] at this)
  go_enter Try.func66, Try.ntmps66
  go_wp2_with (first | (first | ((with_reducible refine wpL_fbin ?_); refine ⟨_, _, _, rfl, rfl, rfl, fun s n => ?_⟩) | (go_at_call 47; refine (allFinite_any _ _ _ (duo _ _) _ (by exact rd_two' _ _ _ _ (by simp)) (by omega)).mono ?_; rintro e w' ⟨rfl, q, rfl⟩) | (go_at_call 52; refine (isPositive_any _ _).mono ?_; rintro e w' ⟨rfl, q, rfl⟩)) | (go_at_call 62; refine (vecIf_any _ w.heap.size 3 (tri3 _ _ _) _ (by exact made33 _ (by simp) (by simp) _ _ _) (by omega)).mono ?_; rw [HT.out]; rintro e w' ⟨rfl, q', rfl⟩))
  go_ret2
  refine ⟨_, _, rfl, cell33 _ (by simp) _ _ _ _, ?_⟩
  (repeat (first | with_reducible exact Below.refl _ _ | with_reducible refine Below.drewN ?_ _ | with_reducible refine Below.setCell ?_ (by simp; try omega) _ | with_reducible refine Below.alloc ?_ (by simp; try omega) _))
set_option maxRecDepth 100000 in
set_option maxHeartbeats 6400000 in
theorem specRest_no (r o p q : Nat) (w : World) (hk : okHe r o p q = true) (A W X Y Z : Nat) (hA : A = heA o q) (hW : W = heW o q) (hX : X = heXs r o p q) (hY : Y = heYs r o p q) (hZ : Z = heZ r o p q) (ho : Hid (false = (isFin .f32 X && isFin .f32 Y && isFin .f32 Z))) :
    Calls Try.prog 65 #[.float .f32 r, .float .f32 o, .float .f32 p, .float .f32 q] w (RestNo w) := by
  have c0 : isFin .f32 r = true := by simp [okHe] at hk; simp [hk]
  have c1 : isFin .f32 o = true := by simp [okHe] at hk; simp [hk]
  have c2 : isP p = true := by simp [okHe] at hk; simp [hk]
  have c3 : isP q = true := by simp [okHe] at hk; simp [hk]
  have eA : fbin .quo .f32 o q = A := hA.symm
  have eW : fbin .add .f32 1065353216 (fbin .mul .f32 A A) = W := by rw [hA, hW]; rfl
  have eZ : fbin .quo .f32 W (fbin .add .f32 W (fbin .quo .f32 (fbin .mul .f32 r r) (fbin .mul .f32 p q))) = Z := by rw [hW, hZ]; rfl
  have eY : fbin .sub .f32 0 (fbin .quo .f32 (fbin .mul .f32 (fbin .quo .f32 r q) Z) W) = Y := by rw [hW, hZ, hY]; rfl
  have eX : fbin .sub .f32 0 (fbin .mul .f32 A Y) = X := by rw [hA, hX, hY]; rfl
  have hp := fun op => fbin_pick_l op .f32
  have hq := fun op => fbin_pick_r op .f32
  clear hk hA hW hX hY hZ
  have HT := Lib.hid (fun s t u => (tri_fin X Y Z s t u).trans ho.out.symm)
  go_enter Try.func65, Try.ntmps65
  go_wp2_with (first | (first | ((with_reducible refine wpL_fbin ?_); refine ⟨_, _, _, rfl, rfl, rfl, fun s n => ?_⟩) | (go_at_call 58; refine (l01Finite_any _ _).mono ?_; rintro e w' ⟨rfl, q, rfl⟩) | (go_at_call 50; refine (l02Above_any _ _).mono ?_; rintro e w' ⟨rfl, q, rfl⟩)) | (go_at_call 60; refine (l02List_any _ w.heap.size 3 (tri3 _ _ _) _ (by exact made33 _ (by simp) (by simp) _ _ _) (by omega)).mono ?_; rw [HT.out]; rintro e w' ⟨rfl, q', rfl⟩))
  go_ret2
  refine ⟨rfl, ?_⟩
  (repeat (first | with_reducible exact Below.refl _ _ | with_reducible refine Below.drewN ?_ _ | with_reducible refine Below.setCell ?_ (by simp; try omega) _ | with_reducible refine Below.alloc ?_ (by simp; try omega) _))
set_option maxRecDepth 100000 in
set_option maxHeartbeats 6400000 in
theorem specRest_yes (r o p q : Nat) (w : World) (hk : okHe r o p q = true) (A W X Y Z : Nat) (hA : A = heA o q) (hW : W = heW o q) (hX : X = heXs r o p q) (hY : Y = heYs r o p q) (hZ : Z = heZ r o p q) (ho : Hid (true = (isFin .f32 X && isFin .f32 Y && isFin .f32 Z))) :
    Calls Try.prog 65 #[.float .f32 r, .float .f32 o, .float .f32 p, .float .f32 q] w (RestYes Z w) := by
  have c0 : isFin .f32 r = true := by simp [okHe] at hk; simp [hk]
  have c1 : isFin .f32 o = true := by simp [okHe] at hk; simp [hk]
  have c2 : isP p = true := by simp [okHe] at hk; simp [hk]
  have c3 : isP q = true := by simp [okHe] at hk; simp [hk]
  have eA : fbin .quo .f32 o q = A := hA.symm
  have eW : fbin .add .f32 1065353216 (fbin .mul .f32 A A) = W := by rw [hA, hW]; rfl
  have eZ : fbin .quo .f32 W (fbin .add .f32 W (fbin .quo .f32 (fbin .mul .f32 r r) (fbin .mul .f32 p q))) = Z := by rw [hW, hZ]; rfl
  have eY : fbin .sub .f32 0 (fbin .quo .f32 (fbin .mul .f32 (fbin .quo .f32 r q) Z) W) = Y := by rw [hW, hZ, hY]; rfl
  have eX : fbin .sub .f32 0 (fbin .mul .f32 A Y) = X := by rw [hA, hX, hY]; rfl
  have hp := fun op => fbin_pick_l op .f32
  have hq := fun op => fbin_pick_r op .f32
  clear hk hA hW hX hY hZ
  have hz : ∀ s, pick .f32 Z s = Z := fun s => pick_num (num_fin (by
    have := ho.out
    cases h1 : isFin .f32 Z
    · rw [h1, Bool.and_false] at this; cases this
    · rfl)) s
  have HT := Lib.hid (fun s t => show finL (tri3 (pick .f32 X s) (pick .f32 Y t) Z) 3 = true by
    have := (tri_fin X Y Z s t 0).trans ho.out.symm
    rwa [hz] at this)
  go_enter Try.func65, Try.ntmps65
  go_wp2_with (first | (first | ((with_reducible refine wpL_fbin ?_); refine ⟨_, _, _, rfl, rfl, rfl, fun s n => ?_⟩) | (go_at_call 58; refine (l01Finite_any _ _).mono ?_; rintro e w' ⟨rfl, q, rfl⟩) | (go_at_call 50; refine (l02Above_any _ _).mono ?_; rintro e w' ⟨rfl, q, rfl⟩)) | (go_at_call 60; refine (l02List_any _ w.heap.size 3 (tri3 _ _ _) _ (by exact made33 _ (by simp) (by simp) _ _ _) (by omega)).mono ?_; rw [HT.out]; rintro e w' ⟨rfl, q', rfl⟩))
  go_ret2
  refine ⟨_, _, rfl, cell33 _ (by simp) _ _ _ _, ?_⟩
  (repeat (first | with_reducible exact Below.refl _ _ | with_reducible refine Below.drewN ?_ _ | with_reducible refine Below.setCell ?_ (by simp; try omega) _ | with_reducible refine Below.alloc ?_ (by simp; try omega) _))
def heR (Z : Nat) : Nat := fbin .mul .f32 1056964608 (fbin .sub .f32 1065353216 Z)
/-- What both tell of a vector that stays. -/
def HeRet (D : Nat) (ok : Bool) (w : World) (e : Ending) (w' : World) : Prop := ∃ s, e = .returned (.tuple #[.float .f32 (pick .f32 D s), .bool ok]) ∧ Below w.heap.size w w'
set_option maxRecDepth 100000 in
set_option maxHeartbeats 1600000 in
theorem implHel_no (r o p q : Nat) (w : World) (HR : Hid (∀ w, Calls Try.prog 66 #[.float .f32 r, .float .f32 o, .float .f32 p, .float .f32 q] w (RestNo w))) :
    Calls Try.prog 33 #[.float .f32 r, .float .f32 o, .float .f32 p, .float .f32 q] w (HeRet 0 false w) := by
  go_enter Try.func33, Try.ntmps33
  go_wp2_with (go_at_call 66; refine (HR.out _).mono ?_; rintro e w' ⟨rfl, hb⟩)
  go_ret2
  exact ⟨0, by rw [pick_nul]; rfl, hb⟩
set_option maxRecDepth 100000 in
set_option maxHeartbeats 1600000 in
theorem specHel_no (r o p q : Nat) (w : World) (HR : Hid (∀ w, Calls Try.prog 65 #[.float .f32 r, .float .f32 o, .float .f32 p, .float .f32 q] w (RestNo w))) :
    Calls Try.prog 32 #[.float .f32 r, .float .f32 o, .float .f32 p, .float .f32 q] w (HeRet 0 false w) := by
  go_enter Try.func32, Try.ntmps32
  go_wp2_with (go_at_call 65; refine (HR.out _).mono ?_; rintro e w' ⟨rfl, hb⟩)
  go_ret2
  exact ⟨0, by rw [pick_nul]; rfl, hb⟩
set_option maxRecDepth 100000 in
set_option maxHeartbeats 1600000 in
theorem implHel_yes (r o p q Z : Nat) (w : World) (HR : Hid (∀ w, Calls Try.prog 66 #[.float .f32 r, .float .f32 o, .float .f32 p, .float .f32 q] w (RestYes Z w))) (D : Nat) (hD : Hid (D = heR Z)) :
    Calls Try.prog 33 #[.float .f32 r, .float .f32 o, .float .f32 p, .float .f32 q] w (HeRet D true w) := by
  have hp := fun op => fbin_pick_l op .f32
  have hq := fun op => fbin_pick_r op .f32
  have eD : fbin .mul .f32 1056964608 (fbin .sub .f32 1065353216 Z) = D := hD.out.symm
  go_enter Try.func33, Try.ntmps33
  go_wp2_with (first | ((with_reducible refine wpL_fbin ?_); refine ⟨_, _, _, rfl, rfl, rfl, fun s n => ?_⟩) | (go_at_call 66; refine (HR.out _).mono ?_; rintro e w' ⟨g, cap, rfl, hc, hb⟩))
  go_ret2
  exact ⟨_, rfl, Below.drewN hb _⟩
set_option maxRecDepth 100000 in
set_option maxHeartbeats 1600000 in
theorem specHel_yes (r o p q Z : Nat) (w : World) (HR : Hid (∀ w, Calls Try.prog 65 #[.float .f32 r, .float .f32 o, .float .f32 p, .float .f32 q] w (RestYes Z w))) (D : Nat) (hD : Hid (D = heR Z)) (hf : isFin .f32 D = true) :
    Calls Try.prog 32 #[.float .f32 r, .float .f32 o, .float .f32 p, .float .f32 q] w (HeRet D true w) := by
  have hp := fun op => fbin_pick_l op .f32
  have hq := fun op => fbin_pick_r op .f32
  have eD : fbin .mul .f32 1056964608 (fbin .sub .f32 1065353216 Z) = D := hD.out.symm
  have HQ := Lib.hid (fun (s : Nat) (w : World) => show Calls Try.prog 51 #[.float .f32 (pick .f32 D s)] w (QRet D true w) by
    have := numS_any D s w
    rw [hf, numQ, if_pos hf] at this
    exact this)
  clear hf
  go_enter Try.func32, Try.ntmps32
  go_wp2_with (first | ((with_reducible refine wpL_fbin ?_); refine ⟨_, _, _, rfl, rfl, rfl, fun s n => ?_⟩) | (go_at_call 65; refine (HR.out _).mono ?_; rintro e w' ⟨g, cap, rfl, hc, hb⟩) | (go_at_call 51; refine (HQ.out _ _).mono ?_; rintro e w' ⟨s', m', rfl, rfl⟩))
  go_ret2
  exact ⟨_, rfl, Below.drewN hb _⟩
/-- What is told of HeldShare. -/
def RetHeldShare (r0 : Nat) (r1 : Bool) (w : World) (e : Ending) (w' : World) : Prop := ∃ (s0 : Nat), e = .returned (.tuple #[.float .f32 (pick .f32 r0 s0), .bool r1]) ∧ Below w.heap.size w w'
theorem bothHeldShare (r : Nat) (_ : (Lit.float .f32 r).wf = true) (o : Nat) (_ : (Lit.float .f32 o).wf = true) (p : Nat) (_ : (Lit.float .f32 p).wf = true) (q : Nat) (_ : (Lit.float .f32 q).wf = true) : ∃ (x : Nat) (ok : Bool),
    (∀ (w : World), Calls Try.prog 32 #[.float .f32 r, .float .f32 o, .float .f32 p, .float .f32 q] w (RetHeldShare x ok w)) ∧ ∀ (w : World), Calls Try.prog 33 #[.float .f32 r, .float .f32 o, .float .f32 p, .float .f32 q] w (RetHeldShare x ok w) := by
  cases hk : okHe r o p q
  · exact ⟨0, false, fun w => specHel_no r o p q w (Lib.hid fun w => specRest_bad r o p q w hk), fun w => implHel_no r o p q w (Lib.hid fun w => implRest_bad r o p q w hk)⟩
  · have h2 : isP p = true ∧ isP q = true := by simp [okHe] at hk; simp [hk]
    have hs := he_same (r := r) (o := o) h2.1 h2.2
    cases ho : (isFin .f32 (heXs r o p q) && isFin .f32 (heYs r o p q) && isFin .f32 (heZ r o p q))
    · rw [ho] at hs
      exact ⟨0, false, fun w => specHel_no r o p q w (Lib.hid fun w => specRest_no r o p q w hk _ _ _ _ _ rfl rfl rfl rfl rfl (Lib.hid ho.symm)), fun w => implHel_no r o p q w (Lib.hid fun w => implRest_no r o p q w hk _ _ _ _ _ rfl rfl rfl rfl rfl (Lib.hid hs.symm))⟩
    · rw [ho] at hs
      have hz : isFin .f32 (heZ r o p q) = true := by simp at ho; exact ho.2
      exact ⟨heR (heZ r o p q), true, fun w => specHel_yes r o p q _ w (Lib.hid fun w => specRest_yes r o p q w hk _ _ _ _ _ rfl rfl rfl rfl rfl (Lib.hid ho.symm)) _ (Lib.hid rfl) (half_less hz), fun w => implHel_yes r o p q _ w (Lib.hid fun w => implRest_yes r o p q w hk _ _ _ _ _ rfl rfl rfl rfl rfl (Lib.hid hs.symm)) _ (Lib.hid rfl)⟩
set_option maxRecDepth 100000 in
set_option maxHeartbeats 6400000 in
theorem lawHeldShare_in (W : World) (a0 : Nat) (_wf0 : (Lit.float .f32 a0).wf = true) (a1 : Nat) (_wf1 : (Lit.float .f32 a1).wf = true) (a2 : Nat) (_wf2 : (Lit.float .f32 a2).wf = true) (a3 : Nat) (_wf3 : (Lit.float .f32 a3).wf = true)  (r0 : Nat) (r1 : Bool) (HS : Hid (∀  (w : World),  Calls Try.prog 32 #[.float .f32 a0, .float .f32 a1, .float .f32 a2, .float .f32 a3] w (RetHeldShare r0 r1 w))) (HI : Hid (∀  (w : World),  Calls Try.prog 33 #[.float .f32 a0, .float .f32 a1, .float .f32 a2, .float .f32 a3] w (RetHeldShare r0 r1 w))) :
    Calls Try.prog 9 #[.float .f32 a0, .float .f32 a1, .float .f32 a2, .float .f32 a3] W fun e w' => e = .returned (.bool true) ∧ Below W.heap.size W w' := by
  have hcv := fun (R : Nat) (s t : Nat) => show canon .f64 (pick .f64 (fconv .f32 (pick .f32 R s) .f64) t) = canon .f64 (fconv .f32 R .f64) by rw [canon_pick, fconv_pick]
  have hcw := fun (R : Nat) (s t : Nat) => show canon .f64 (pick .f64 R s) = canon .f64 (pick .f64 R t) by rw [canon_pick, canon_pick]
  have HCV := Lib.hid hcv
  have HCW := Lib.hid hcw
  clear hcv hcw
  have hnb1 : (r1 != r1) = false := by simp
  have HB := Blw.refl W
  go_enter Try.func9, Try.ntmps9
  go_wp2_with fail
  refine (HS.out  _ ).mono ?_
  rintro e0 w1 ⟨sw0, rfl, B0⟩
  replace HB := Blw.next (by exact HB) B0
  clear B0
  have HL := Blw.refl w1
  have Eg := (Blw.out (by exact HL)).size
  go_wp2_with fail
  refine (HI.out  _ ).mono ?_
  rintro e0 w2 ⟨sg0, rfl, B0⟩
  replace HL := Blw.next (by exact HL) B0
  clear B0
  go_wp2_with (first | ((with_reducible refine wpL_fconv ?_); refine ⟨_, _, _, rfl, Option.isSome_iff_exists.2 ⟨_, Try.underlying22⟩, Try.underlying34, FloatKind.noConfusion, convOk_widen _, fun s n => ?_⟩) | ((with_reducible refine wpL_fconv_g ?_); refine ⟨rfl, _, _, _, rfl, Option.isSome_iff_exists.2 ⟨_, Try.underlying22⟩, Try.underlying34, FloatKind.noConfusion, convOk_widen _, fun s n => ?_⟩))
  refine (sameFloat_any _ _ _ ((HCV.out _ _ _).trans (HCV.out _ _ _).symm)).mono ?_
  rintro e0 w0 ⟨rfl, q, rfl⟩
  go_wp2
  go_ret
  exact ⟨rfl, (Blw.out (by exact HB)).trans ((Blw.out (by exact HL)).mono (Blw.out (by exact HB)).size)⟩
set_option maxHeartbeats 1600000 in
theorem lawHeldShare_any (W : World) (a0 : Nat) (_wf0 : (Lit.float .f32 a0).wf = true) (a1 : Nat) (_wf1 : (Lit.float .f32 a1).wf = true) (a2 : Nat) (_wf2 : (Lit.float .f32 a2).wf = true) (a3 : Nat) (_wf3 : (Lit.float .f32 a3).wf = true) :
    Calls Try.prog 9 #[.float .f32 a0, .float .f32 a1, .float .f32 a2, .float .f32 a3] W fun e w' => e = .returned (.bool true) ∧ Below W.heap.size W w' := by
  obtain ⟨r0, r1, hs, hi⟩ := bothHeldShare a0 _wf0 a1 _wf1 a2 _wf2 a3 _wf3
  exact lawHeldShare_in W a0 _wf0 a1 _wf1 a2 _wf2 a3 _wf3  r0 r1 (Lib.hid hs) (Lib.hid hi)
set_option maxRecDepth 100000 in
theorem FnExactHeldShare_lifted (os : Os) (started : os.Started) (H : Type) (enc : TypeId × Value → H) :
    ReturnsInHanded {} Try.checked os 9 .any (Rows.fnExactHeldShareSpec.pre6 enc Try.prog Try.f9 Rows.fnExactHeldShareRow.domain false) (Rows.fnExactHeldShareSpec.post enc Try.prog Try.f9 false true false false) := by
  refine returnsInHanded_of_change (C := Try.checked) ownKnob_none started (by kernel_rfl) Try.func9
    (ChangeSpec.witness6 (enc := enc) (C := Try.checked) false ⟨#[], #[.float .f32 0, .float .f32 0, .float .f32 0, .float .f32 0], []⟩ 8 (by kernel_rfl) (by kernel_rfl) (by kernel_rfl) (by kernel_rfl)) ?_
  intro W base args ds gs before hval0 hW _ _
  have hval : ∀ (j : Nat) t v, Try.f9.params[j]? = some t → args[j]? = some v → Value.okWide Try.prog W .any base t v := hval0
  have hW' := hW
  obtain ⟨p, q, hA0, hV, rfl, _, _⟩ := hW
  have hA : DataW.TrodAll enc Try.prog W 0 (fun _ => true) true Try.f9.params.toList args.toList ds p := hA0
  rw [Try.params9] at hA hval
  obtain ⟨v0, v1, v2, v3, d0, d1, d2, d3, p0, p1, p2, p3, rfl, rfl, rfl, h0, h1, h2, h3⟩ := trodAll_four hA
  obtain ⟨rfl, rfl⟩ := trodVars_none hV
  obtain ⟨a0, rfl, rfl, rfl, w0⟩ := open_float Try.underlying22 (hval 0 22 v0 rfl rfl) h0
  obtain ⟨a1, rfl, rfl, rfl, w1⟩ := open_float Try.underlying22 (hval 1 22 v1 rfl rfl) h1
  obtain ⟨a2, rfl, rfl, rfl, w2⟩ := open_float Try.underlying22 (hval 2 22 v2 rfl rfl) h2
  obtain ⟨a3, rfl, rfl, rfl, w3⟩ := open_float Try.underlying22 (hval 3 22 v3 rfl rfl) h3
  clear hA0 hval0
  refine (lawHeldShare_any W a0 w0 a1 w1 a2 w2 a3 w3).mono fun e W' ⟨he, hb⟩ => ?_
  subst he
  have hA2 := trodAll_mk4 (enc := enc) (w := W') (base := 0) (spare := fun b => decide (b < W.heap.size)) (held := true) (shut_float Try.underlying22 w0) (shut_float Try.underlying22 w1) (shut_float Try.underlying22 w2) (shut_float Try.underlying22 w3)
  exact ⟨_, rfl, _, _, _, [], _, [], hW', trodAll_cons_mk (shut_bool Try.underlying4 _) trodAll_mk0, hA2, rfl, hb.frame _, fun h => by cases h⟩
theorem FnExactHeldShare_holds : Rows.FnExactHeldShareSaid :=
  OpenClaim.holds_of_wide 9 Try.f9 rfl rfl rfl rfl rfl rfl rfl ⟨rfl, rfl, rfl, rfl, rfl⟩ rfl rfl rfl rfl rfl (by kernel_rfl) Try.func9 (by kernel_rfl)
    (of_decide_eq_true (by kernel_rfl)) (by unfold Func.isWrapper; first | (rw [if_pos (by decide +kernel)]; kernel_rfl) | (rw [if_neg (by decide +kernel)]; exact ⟨rfl, rfl⟩))
    (fun os started H enc _ => FnExactHeldShare_lifted os started H enc)
end Go.Proofs.Ytebelikahpnobaa
