
import Derived.Test.YtmpcalpapkedhaaMg1
import Derived.Test.YtmpcalpapkedhaaSmN
import Derived.Deep.QuietTactic
import Derived.Deep.RegionLaw
import Derived.BigQuiet
import Derived.Deep.RegionHeld3
namespace Go.Proofs.Ytmpcalpapkedhaa
open Go Go.ChangeShapes Go.WideShapes Go.ChangeAt Go.RowKit
/- How high one line is at a place: as the program tells it. -/

def FltI (R : Nat) (w : World) (e : Ending) (w' : World) : Prop := ∃ s m, e = .returned (.float .f32 (pick .f32 R s)) ∧ w' = w.drewN m
def FltZ (R : Nat) (w : World) (e : Ending) (w' : World) : Prop := ∃ s, e = .returned (.float .f32 (pick .f32 R s)) ∧ Below w.heap.size w w'
set_option maxRecDepth 100000 in
set_option maxHeartbeats 1600000 in
theorem bell_any (hh U Q N E B : Nat) (w : World) (hQ : fbin .mul .f32 U U = Q) (nQ : isNaN .f32 Q = false) (hN : fbin .sub .f32 0 Q = N) (nN : NegX N) (hE : E = expF N) (hB : fbin .mul .f32 hh E = B) :
    Calls Try.prog 260 #[.float .f32 hh, .float .f32 U] w (FltI B w) := by
  have pQ := fun s => pick_num (s := s) nQ
  have pN := fun s => pick_num (s := s) (negX_num nN)
  have HE := Lib.hid (show ∀ w, Calls Try.prog 265 #[.float .f32 N] w (fun e w' => e = .returned (.float .f32 E) ∧ ∃ n, w' = w.drewN n) from fun w => implExp_any N nN E (Lib.hid hE) w)
  clear nQ nN hE
  go_enter Try.func260, Try.ntmps260
  go_wp2_with (first | ((with_reducible refine wpL_fbin ?_); refine ⟨_, _, _, rfl, rfl, rfl, fun s n => ?_⟩) | (go_at_call 265; refine (HE.out _).mono ?_; rintro e w' ⟨rfl, q, rfl⟩))
  go_ret
  exact ⟨_, _, rfl, rfl⟩
set_option maxRecDepth 100000 in
set_option maxHeartbeats 1600000 in
theorem hill_any (hh U Q J H : Nat) (w : World) (hQ : fbin .mul .f32 U U = Q) (nQ : isNaN .f32 Q = false) (hJ : fbin .add .f32 1065353216 Q = J) (nJ : isNaN .f32 J = false) (hH : fbin .quo .f32 hh J = H) :
    Calls Try.prog 261 #[.float .f32 hh, .float .f32 U] w (FltI H w) := by
  have pQ := fun s => pick_num (s := s) nQ
  have pJ := fun s => pick_num (s := s) nJ
  clear nQ nJ
  go_enter Try.func261, Try.ntmps261
  go_wp2_with ((with_reducible refine wpL_fbin ?_); refine ⟨_, _, _, rfl, rfl, rfl, fun s n => ?_⟩)
  go_ret
  exact ⟨_, _, rfl, rfl⟩
set_option maxRecDepth 100000 in
set_option maxHeartbeats 1600000 in
theorem half_any (a b R : Nat) (w : World) (hR : R = fbin .quo .f32 (fbin .add .f32 (fbin .add .f32 0 a) b) 1073741824) :
    Calls Try.prog 266 #[.float .f32 a, .float .f32 b] w (FltZ R w) := by
  have hs : sumW (duo a b) 2 = fbin .add .f32 (fbin .add .f32 0 a) b := rfl
  obtain ⟨S, hS⟩ : ∃ S, S = fbin .add .f32 (fbin .add .f32 0 a) b := ⟨_, rfl⟩
  rw [← hS] at hs hR
  have HS := Lib.hid (SumNumbers_any (some ⟨w.heap.size, 0, none⟩) 2 2 (duo a b) (w.alloc (.cells #[.float .f32 a, .float .f32 b] 22)) (rd_two w a b _) (by omega))
  rw [hs] at HS
  have hp := fun op => fbin_pick_l op .f32
  have hR' := hR.symm
  clear hs hS hR
  go_enter Try.func266, Try.ntmps266
  go_wp2_with (first | ((with_reducible refine wpL_fbin ?_); refine ⟨_, _, _, rfl, rfl, rfl, fun s n => ?_⟩) | (go_at_call 184; refine HS.out.mono ?_; rintro e w' ⟨s', m', rfl, rfl⟩))
  go_ret
  refine ⟨_, rfl, ?_⟩
  (repeat (first | with_reducible exact Below.refl _ _ | with_reducible refine Below.drewN ?_ _ | with_reducible refine Below.setCell ?_ (by simp; try omega) _ | with_reducible refine Below.alloc ?_ (by simp; try omega) _))
set_option maxRecDepth 100000 in
set_option maxHeartbeats 1600000 in
theorem roof_any (hh U R : Nat) (w : World) (hU : U < 4294967296) (nU : isNaN .f32 U = false) (hR : R = roofW hh (U % 2147483648)) :
    Calls Try.prog 263 #[.float .f32 hh, .float .f32 U] w (FltI R w) := by
  have hm := fun ts t w => max_abs hU nU ts t w
  obtain ⟨V, hV⟩ : ∃ V, V = U % 2147483648 := ⟨_, rfl⟩
  obtain ⟨M, hM⟩ : ∃ M, Op.negFloat .f32 U = M := ⟨_, rfl⟩
  rw [← hV, hM] at hm
  rw [← hV] at hR
  clear hV hU nU
  have hp := fun op => fbin_pick_r op .f32
  cases g : gtO V
  · have hg : (FloatKind.f32.format.order V 1065353216 == some .gt) = false := g
    have HR := Lib.hid (show ∀ s m, FltI R w (.returned (.float .f32 (pick .f32 (fbin .mul .f32 hh (fbin .sub .f32 1065353216 V)) s))) (w.drewN m) from fun s m => ⟨s, m, by rw [hR, roofW, g, if_neg (by simp)], rfl⟩)
    clear g hR
    go_enter Try.func263, Try.ntmps263
    go_wp2_with (first | ((with_reducible refine wpL_fbin ?_); refine ⟨_, _, _, rfl, rfl, rfl, fun s n => ?_⟩) | ((with_reducible refine wpL_fneg ?_); refine ⟨_, _, rfl, ?_⟩))
    go_ret
    exact HR.out _ _
  · have hg : (FloatKind.f32.format.order V 1065353216 == some .gt) = true := g
    have HR := Lib.hid (show ∀ m, FltI R w (.returned (.float .f32 0)) (w.drewN m) from fun m => ⟨0, m, by rw [hR, roofW, g, if_pos rfl, pick_num (by decide +kernel)], rfl⟩)
    clear g hR
    go_enter Try.func263, Try.ntmps263
    go_wp2_with (first | ((with_reducible refine wpL_fbin ?_); refine ⟨_, _, _, rfl, rfl, rfl, fun s n => ?_⟩) | ((with_reducible refine wpL_fneg ?_); refine ⟨_, _, rfl, ?_⟩))
    go_ret
    exact HR.out 0

/- How high one line is at a place, told if it is finite: as the program tells it. -/

set_option maxRecDepth 100000 in
set_option maxHeartbeats 1600000 in
theorem both_any (hh U Q N E B J H R : Nat) (w : World) (hQ : fbin .mul .f32 U U = Q) (nQ : isNaN .f32 Q = false) (hN : fbin .sub .f32 0 Q = N) (nN : NegX N) (hE : E = expF N) (hB : fbin .mul .f32 hh E = B) (hJ : fbin .add .f32 1065353216 Q = J) (nJ : isNaN .f32 J = false) (hH : fbin .quo .f32 hh J = H) (hR : R = fbin .quo .f32 (fbin .add .f32 (fbin .add .f32 0 B) H) 1073741824) :
    Calls Try.prog 262 #[.float .f32 hh, .float .f32 U] w (FltZ R w) := by
  have HB := Lib.hid (fun w => bell_any hh U Q N E B w hQ nQ hN nN hE hB)
  have HH := Lib.hid (fun w => hill_any hh U Q J H w hQ nQ hJ nJ hH)
  have HF := Lib.hid (fun s t w => half_any (pick .f32 B s) (pick .f32 H t) R w (by rw [fbin_pick_r, fbin_pick_r]; exact hR))
  clear hQ nQ hN nN hE hB hJ nJ hH hR
  go_enter Try.func262, Try.ntmps262
  go_wp2_with fail
  refine (HB.out _).mono ?_
  rintro e w1 ⟨s, m, rfl, rfl⟩
  go_wp2_with fail
  refine (HH.out _).mono ?_
  rintro e w1 ⟨s2, m2, rfl, rfl⟩
  go_wp2_with fail
  refine (HF.out _ _ _).mono ?_
  rintro e w1 ⟨s3, rfl, hb⟩
  go_wp2
  go_ret
  exact ⟨_, rfl, Below.trans (Below.drewN (Below.refl _ w) (m + m2)) hb⟩
set_option maxRecDepth 100000 in
set_option maxHeartbeats 1600000 in
theorem shape0_any (w : World) : Calls Try.prog 250 #[.int .i64 0] w fun e w' => e = .returned (.func (.func 260) #[] #[]) ∧ w' = w := by
  have hi : ∀ w : World, (Instr.index 251 (.agg #[.func (.func 260) #[] #[], .func (.func 261) #[] #[], .func (.func 262) #[] #[], .func (.func 263) #[] #[]]) (.int .i64 0)).run Try.prog w = .ok (.func (.func 260) #[] #[]) w := fun _ => by kernel_rfl
  go_enter Try.func250, Try.ntmps250
  go_wp2
  go_ret
  exact ⟨rfl, rfl⟩
set_option maxRecDepth 100000 in
set_option maxHeartbeats 1600000 in
theorem shape1_any (w : World) : Calls Try.prog 250 #[.int .i64 1] w fun e w' => e = .returned (.func (.func 261) #[] #[]) ∧ w' = w := by
  have hi : ∀ w : World, (Instr.index 251 (.agg #[.func (.func 260) #[] #[], .func (.func 261) #[] #[], .func (.func 262) #[] #[], .func (.func 263) #[] #[]]) (.int .i64 1)).run Try.prog w = .ok (.func (.func 261) #[] #[]) w := fun _ => by kernel_rfl
  go_enter Try.func250, Try.ntmps250
  go_wp2
  go_ret
  exact ⟨rfl, rfl⟩
set_option maxRecDepth 100000 in
set_option maxHeartbeats 1600000 in
theorem shape2_any (w : World) : Calls Try.prog 250 #[.int .i64 2] w fun e w' => e = .returned (.func (.func 262) #[] #[]) ∧ w' = w := by
  have hi : ∀ w : World, (Instr.index 251 (.agg #[.func (.func 260) #[] #[], .func (.func 261) #[] #[], .func (.func 262) #[] #[], .func (.func 263) #[] #[]]) (.int .i64 2)).run Try.prog w = .ok (.func (.func 262) #[] #[]) w := fun _ => by kernel_rfl
  go_enter Try.func250, Try.ntmps250
  go_wp2
  go_ret
  exact ⟨rfl, rfl⟩
set_option maxRecDepth 100000 in
set_option maxHeartbeats 1600000 in
theorem shape3_any (w : World) : Calls Try.prog 250 #[.int .i64 3] w fun e w' => e = .returned (.func (.func 263) #[] #[]) ∧ w' = w := by
  have hi : ∀ w : World, (Instr.index 251 (.agg #[.func (.func 260) #[] #[], .func (.func 261) #[] #[], .func (.func 262) #[] #[], .func (.func 263) #[] #[]]) (.int .i64 3)).run Try.prog w = .ok (.func (.func 263) #[] #[]) w := fun _ => by kernel_rfl
  go_enter Try.func250, Try.ntmps250
  go_wp2
  go_ret
  exact ⟨rfl, rfl⟩

/- How high one line is at a place: as the program tells it, kind by kind. -/

def LnRet (R : Nat) (ok : Bool) (w : World) (e : Ending) (w' : World) : Prop := ∃ s, e = .returned (.tuple #[.float .f32 (pick .f32 R s), .bool ok]) ∧ Below w.heap.size w w'
set_option maxRecDepth 100000 in
set_option maxHeartbeats 6400000 in
theorem LineAt_0 (p hh d x : Nat) (w : World) (hl : okLin p hh d 0 = true) (hx : isFin .f32 x = true) (A U Q N E B : Nat) (hA : fbin .sub .f32 x p = A) (nA : isNaN .f32 A = false) (hU : fbin .quo .f32 A d = U) (nU : isNaN .f32 U = false)
    (hQ : fbin .mul .f32 U U = Q) (nQ : isNaN .f32 Q = false) (hN : fbin .sub .f32 0 Q = N) (nN : NegX N) (hE : E = expF N) (hB : fbin .mul .f32 hh E = B) :
    Calls Try.prog 227 #[.agg #[.float .f32 p, .float .f32 hh, .float .f32 d, .int .i64 0], .float .f32 x] w (LnRet (numQ B) (isFin .f32 B) w) := by
  have HA := lnBox_alloc w p hh d 0 120
  have HBx := (Below.refl _ w).alloc (Nat.le_refl _) (.cells #[.float .f32 p, .float .f32 hh, .float .f32 d, .int .i64 0] 120)
  have HL := Lib.hid (fun w => implVL_any p hh d 0 w)
  rw [hl] at HL
  have HS := Lib.hid shape0_any
  have HF := Lib.hid (fun w => bell_any hh U Q N E B w hQ nQ hN nN hE hB)
  have HQ := Lib.hid (fun s w => numI_any B s w)
  have q1 := fun t => run_numop (op := .sub) rfl t _ _ _ hA nA
  have q2 := fun t => run_numop (op := .quo) rfl t _ _ _ hU nU
  have HR := Lib.hid (show ∀ s w', Below w.heap.size w w' → LnRet (numQ B) (isFin .f32 B) w (.returned (.tuple #[.float .f32 (pick .f32 (numQ B) s), .bool (isFin .f32 B)])) w' from fun s w' hb => ⟨s, rfl, hb⟩)
  clear hl hA nA hU nU hQ nQ hN nN hE hB
  go_enter Try.func227, Try.ntmps227
  go_wp2_with (first | (go_at_call 172; refine (HL.out _).mono ?_; rintro e w1 ⟨rfl, B0⟩; obtain ⟨p0, p1, p2, p3⟩ := HA.below B0; have HE := HBx.trans (B0.mono HBx.size); have hz : w.heap.size < w1.heap.size := World.block_lt_of_cell? w1 _ p0; clear HA HBx B0) | (first | (go_at_call 166; refine (IsFinite_any _ _).mono ?_; rintro e w' ⟨rfl, q, rfl⟩)))
  go_region_held3 (fun w' => w'.cell? ⟨w.heap.size, 0, none⟩ = some (.float .f32 p) ∧ w'.cell? ⟨w.heap.size, 1, none⟩ = some (.float .f32 hh) ∧ w'.cell? ⟨w.heap.size, 2, none⟩ = some (.float .f32 d) ∧ w'.cell? ⟨w.heap.size, 3, none⟩ = some (.int .i64 0)) (go_keep) (first | (go_simp; go_at_call 250; refine (HS.out _).mono ?_; rintro e w' ⟨rfl, rfl⟩) | (go_simp; go_at_call 260; refine (HF.out _).mono ?_; rintro e w' ⟨s', m', rfl, rfl⟩) | (go_simp; go_at_call 115; refine (HQ.out _ _).mono ?_; rintro e w' ⟨s2, m2, rfl, rfl⟩))
  all_goals go_wp2
  all_goals go_ret2
  all_goals refine HR.out _ _ (HE.trans ?_)
  all_goals refine Below.mono ?_ HE.size
  all_goals (repeat (first | with_reducible exact Below.refl _ _ | with_reducible refine Below.drewN ?_ _ | with_reducible refine Below.setCell ?_ (by simp; try omega) _ | with_reducible refine Below.alloc ?_ (by simp; try omega) _))
set_option maxRecDepth 100000 in
set_option maxHeartbeats 6400000 in
theorem LineAt_1 (p hh d x : Nat) (w : World) (hl : okLin p hh d 1 = true) (hx : isFin .f32 x = true) (A U Q J H : Nat) (hA : fbin .sub .f32 x p = A) (nA : isNaN .f32 A = false) (hU : fbin .quo .f32 A d = U) (nU : isNaN .f32 U = false)
    (hQ : fbin .mul .f32 U U = Q) (nQ : isNaN .f32 Q = false) (hJ : fbin .add .f32 1065353216 Q = J) (nJ : isNaN .f32 J = false) (hH : fbin .quo .f32 hh J = H) :
    Calls Try.prog 227 #[.agg #[.float .f32 p, .float .f32 hh, .float .f32 d, .int .i64 1], .float .f32 x] w (LnRet (numQ H) (isFin .f32 H) w) := by
  have HA := lnBox_alloc w p hh d 1 120
  have HBx := (Below.refl _ w).alloc (Nat.le_refl _) (.cells #[.float .f32 p, .float .f32 hh, .float .f32 d, .int .i64 1] 120)
  have HL := Lib.hid (fun w => implVL_any p hh d 1 w)
  rw [hl] at HL
  have HS := Lib.hid shape1_any
  have HF := Lib.hid (fun w => hill_any hh U Q J H w hQ nQ hJ nJ hH)
  have HQ := Lib.hid (fun s w => numI_any H s w)
  have q1 := fun t => run_numop (op := .sub) rfl t _ _ _ hA nA
  have q2 := fun t => run_numop (op := .quo) rfl t _ _ _ hU nU
  have HR := Lib.hid (show ∀ s w', Below w.heap.size w w' → LnRet (numQ H) (isFin .f32 H) w (.returned (.tuple #[.float .f32 (pick .f32 (numQ H) s), .bool (isFin .f32 H)])) w' from fun s w' hb => ⟨s, rfl, hb⟩)
  clear hl hA nA hU nU hQ nQ hJ nJ hH
  go_enter Try.func227, Try.ntmps227
  go_wp2_with (first | (go_at_call 172; refine (HL.out _).mono ?_; rintro e w1 ⟨rfl, B0⟩; obtain ⟨p0, p1, p2, p3⟩ := HA.below B0; have HE := HBx.trans (B0.mono HBx.size); have hz : w.heap.size < w1.heap.size := World.block_lt_of_cell? w1 _ p0; clear HA HBx B0) | (first | (go_at_call 166; refine (IsFinite_any _ _).mono ?_; rintro e w' ⟨rfl, q, rfl⟩)))
  go_region_held3 (fun w' => w'.cell? ⟨w.heap.size, 0, none⟩ = some (.float .f32 p) ∧ w'.cell? ⟨w.heap.size, 1, none⟩ = some (.float .f32 hh) ∧ w'.cell? ⟨w.heap.size, 2, none⟩ = some (.float .f32 d) ∧ w'.cell? ⟨w.heap.size, 3, none⟩ = some (.int .i64 1)) (go_keep) (first | (go_simp; go_at_call 250; refine (HS.out _).mono ?_; rintro e w' ⟨rfl, rfl⟩) | (go_simp; go_at_call 261; refine (HF.out _).mono ?_; rintro e w' ⟨s', m', rfl, rfl⟩) | (go_simp; go_at_call 115; refine (HQ.out _ _).mono ?_; rintro e w' ⟨s2, m2, rfl, rfl⟩))
  all_goals go_wp2
  all_goals go_ret2
  all_goals refine HR.out _ _ (HE.trans ?_)
  all_goals refine Below.mono ?_ HE.size
  all_goals (repeat (first | with_reducible exact Below.refl _ _ | with_reducible refine Below.drewN ?_ _ | with_reducible refine Below.setCell ?_ (by simp; try omega) _ | with_reducible refine Below.alloc ?_ (by simp; try omega) _))
set_option maxRecDepth 100000 in
set_option maxHeartbeats 6400000 in
theorem LineAt_3 (p hh d x : Nat) (w : World) (hl : okLin p hh d 3 = true) (hx : isFin .f32 x = true) (A U R : Nat) (hA : fbin .sub .f32 x p = A) (nA : isNaN .f32 A = false) (hU : fbin .quo .f32 A d = U) (nU : isNaN .f32 U = false)
    (hUl : U < 4294967296) (hR : R = roofW hh (U % 2147483648)) :
    Calls Try.prog 227 #[.agg #[.float .f32 p, .float .f32 hh, .float .f32 d, .int .i64 3], .float .f32 x] w (LnRet (numQ R) (isFin .f32 R) w) := by
  have HA := lnBox_alloc w p hh d 3 120
  have HBx := (Below.refl _ w).alloc (Nat.le_refl _) (.cells #[.float .f32 p, .float .f32 hh, .float .f32 d, .int .i64 3] 120)
  have HL := Lib.hid (fun w => implVL_any p hh d 3 w)
  rw [hl] at HL
  have HS := Lib.hid shape3_any
  have HF := Lib.hid (fun w => roof_any hh U R w hUl nU hR)
  have HQ := Lib.hid (fun s w => numI_any R s w)
  have q1 := fun t => run_numop (op := .sub) rfl t _ _ _ hA nA
  have q2 := fun t => run_numop (op := .quo) rfl t _ _ _ hU nU
  have HR := Lib.hid (show ∀ s w', Below w.heap.size w w' → LnRet (numQ R) (isFin .f32 R) w (.returned (.tuple #[.float .f32 (pick .f32 (numQ R) s), .bool (isFin .f32 R)])) w' from fun s w' hb => ⟨s, rfl, hb⟩)
  clear hl hA nA hU nU hUl hR
  go_enter Try.func227, Try.ntmps227
  go_wp2_with (first | (go_at_call 172; refine (HL.out _).mono ?_; rintro e w1 ⟨rfl, B0⟩; obtain ⟨p0, p1, p2, p3⟩ := HA.below B0; have HE := HBx.trans (B0.mono HBx.size); have hz : w.heap.size < w1.heap.size := World.block_lt_of_cell? w1 _ p0; clear HA HBx B0) | (first | (go_at_call 166; refine (IsFinite_any _ _).mono ?_; rintro e w' ⟨rfl, q, rfl⟩)))
  go_region_held3 (fun w' => w'.cell? ⟨w.heap.size, 0, none⟩ = some (.float .f32 p) ∧ w'.cell? ⟨w.heap.size, 1, none⟩ = some (.float .f32 hh) ∧ w'.cell? ⟨w.heap.size, 2, none⟩ = some (.float .f32 d) ∧ w'.cell? ⟨w.heap.size, 3, none⟩ = some (.int .i64 3)) (go_keep) (first | (go_simp; go_at_call 250; refine (HS.out _).mono ?_; rintro e w' ⟨rfl, rfl⟩) | (go_simp; go_at_call 263; refine (HF.out _).mono ?_; rintro e w' ⟨s', m', rfl, rfl⟩) | (go_simp; go_at_call 115; refine (HQ.out _ _).mono ?_; rintro e w' ⟨s2, m2, rfl, rfl⟩))
  all_goals go_wp2
  all_goals go_ret2
  all_goals refine HR.out _ _ (HE.trans ?_)
  all_goals refine Below.mono ?_ HE.size
  all_goals (repeat (first | with_reducible exact Below.refl _ _ | with_reducible refine Below.drewN ?_ _ | with_reducible refine Below.setCell ?_ (by simp; try omega) _ | with_reducible refine Below.alloc ?_ (by simp; try omega) _))

/- How high one line is at a place: as the program tells it, kind by kind. -/

set_option maxRecDepth 100000 in
set_option maxHeartbeats 6400000 in
theorem LineAt_2 (p hh d x : Nat) (w : World) (hl : okLin p hh d 2 = true) (hx : isFin .f32 x = true) (A U Q N E B J H R : Nat) (hA : fbin .sub .f32 x p = A) (nA : isNaN .f32 A = false) (hU : fbin .quo .f32 A d = U) (nU : isNaN .f32 U = false)
    (hQ : fbin .mul .f32 U U = Q) (nQ : isNaN .f32 Q = false) (hN : fbin .sub .f32 0 Q = N) (nN : NegX N) (hE : E = expF N) (hB : fbin .mul .f32 hh E = B) (hJ : fbin .add .f32 1065353216 Q = J) (nJ : isNaN .f32 J = false) (hH : fbin .quo .f32 hh J = H) (hR : R = fbin .quo .f32 (fbin .add .f32 (fbin .add .f32 0 B) H) 1073741824) :
    Calls Try.prog 227 #[.agg #[.float .f32 p, .float .f32 hh, .float .f32 d, .int .i64 2], .float .f32 x] w (LnRet (numQ R) (isFin .f32 R) w) := by
  have HA := lnBox_alloc w p hh d 2 120
  have HBx := (Below.refl _ w).alloc (Nat.le_refl _) (.cells #[.float .f32 p, .float .f32 hh, .float .f32 d, .int .i64 2] 120)
  have HL := Lib.hid (fun w => implVL_any p hh d 2 w)
  rw [hl] at HL
  have HS := Lib.hid shape2_any
  have HF := Lib.hid (fun w => both_any hh U Q N E B J H R w hQ nQ hN nN hE hB hJ nJ hH hR)
  have HQ := Lib.hid (fun s w => numI_any R s w)
  have q1 := fun t => run_numop (op := .sub) rfl t _ _ _ hA nA
  have q2 := fun t => run_numop (op := .quo) rfl t _ _ _ hU nU
  have HR := Lib.hid (show ∀ s w', Below w.heap.size w w' → LnRet (numQ R) (isFin .f32 R) w (.returned (.tuple #[.float .f32 (pick .f32 (numQ R) s), .bool (isFin .f32 R)])) w' from fun s w' hb => ⟨s, rfl, hb⟩)
  clear hl hA nA hU nU hQ nQ hN nN hE hB hJ nJ hH hR
  go_enter Try.func227, Try.ntmps227
  go_wp2_with (first | (go_at_call 172; refine (HL.out _).mono ?_; rintro e w1 ⟨rfl, B0⟩; have HL1 := HA.below B0; obtain ⟨p0, p1, p2, p3⟩ := id HL1; have HE := HBx.trans (B0.mono HBx.size); have hz : w.heap.size < w1.heap.size := World.block_lt_of_cell? w1 _ p0; clear HA HBx B0) | (first | (go_at_call 166; refine (IsFinite_any _ _).mono ?_; rintro e w' ⟨rfl, q, rfl⟩)))
  go_region_held3 (fun w' => w'.cell? ⟨w.heap.size, 0, none⟩ = some (.float .f32 p) ∧ w'.cell? ⟨w.heap.size, 1, none⟩ = some (.float .f32 hh) ∧ w'.cell? ⟨w.heap.size, 2, none⟩ = some (.float .f32 d) ∧ w'.cell? ⟨w.heap.size, 3, none⟩ = some (.int .i64 2)) (go_keep) (first | (go_simp; go_at_call 250; refine (HS.out _).mono ?_; rintro e w' ⟨rfl, rfl⟩) | (go_simp; go_at_call 262; refine (HF.out _).mono ?_; rintro e w' ⟨s', rfl, hb⟩; obtain ⟨q0, q1, q2, q3⟩ := (show LnBox (w1.drewN _) _ _ _ _ _ from HL1).below hb) | (go_simp; go_at_call 115; refine (HQ.out _ _).mono ?_; rintro e w' ⟨s2, m2, rfl, rfl⟩))
  all_goals go_wp2
  all_goals go_ret2
  all_goals refine HR.out _ _ (HE.trans ?_)
  all_goals refine Below.mono ?_ HE.size
  all_goals (repeat (first | with_reducible exact Below.refl _ _ | with_reducible refine Below.drewN ?_ _ | with_reducible refine Below.setCell ?_ (by simp; try omega) _ | with_reducible refine Below.alloc ?_ (by simp; try omega) _))
  all_goals exact Below.trans (Below.drewN (Below.refl _ _) _) hb
/-- How high one line is at a place: what the program gives for every line that can be and every place. -/
theorem LineAt_any (l : Ln) (x : Nat) (w : World) (hl : okLn l = true) (hx : isFin .f32 x = true) (R : Nat) (hR : Hid (R = lnI l x)) :
    Calls Try.prog 227 #[.agg #[.float .f32 l.p, .float .f32 l.h, .float .f32 l.d, .int .i64 l.k], .float .f32 x] w (LnRet (numQ R) (isFin .f32 R) w) := by
  obtain ⟨n1, n2, n3, n4, n5, n6, n7⟩ := ln_facts hl hx
  obtain ⟨_, _, _, k0, k3⟩ := okLin_at hl
  have hR := hR.out
  obtain ⟨p, hh, d, k⟩ := l
  dsimp only at k0 k3
  rcases (by omega : k = 0 ∨ k = 1 ∨ k = 2 ∨ k = 3) with rfl | rfl | rfl | rfl
  · rw [lnI, if_pos rfl] at hR
    subst hR
    exact LineAt_0 p hh d x w hl hx _ _ _ _ _ _ rfl n1 rfl n2 rfl n3 rfl n4 rfl rfl
  · rw [lnI, if_neg (by simp), if_pos rfl] at hR
    subst hR
    exact LineAt_1 p hh d x w hl hx _ _ _ _ _ rfl n1 rfl n2 rfl n3 rfl n6 rfl
  · rw [lnI, if_neg (by simp), if_neg (by simp), if_pos rfl] at hR
    exact LineAt_2 p hh d x w hl hx _ _ _ _ _ _ _ _ _ rfl n1 rfl n2 rfl n3 rfl n4 rfl rfl rfl n6 rfl hR
  · rw [lnI, if_neg (by simp), if_neg (by simp), if_neg (by simp)] at hR
    exact LineAt_3 p hh d x w hl hx _ _ _ rfl n1 rfl n2 (fbin_lt _ _ _) hR

end Go.Proofs.Ytmpcalpapkedhaa
