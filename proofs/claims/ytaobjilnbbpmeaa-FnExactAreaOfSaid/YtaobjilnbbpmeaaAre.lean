/- Of any line the program tells the area just where the model does, and the same: for all arguments. -/
import Derived.Test.YtaobjilnbbpmeaaLin
import Derived.Test.YtaobjilnbbpmeaaSame
import Derived.Test.YtaobjilnbbpmeaaRo
import Derived.Deep.QuietTactic
import Derived.BigQuiet
namespace Go.Proofs.Ytaobjilnbbpmeaa
open Go Go.ChangeShapes Go.WideShapes Go.ChangeAt Go.RowKit

def areC (k : Int) : Nat := if k = 0 then 1071833029 else if k = 1 then 1078530011 else if k = 2 then 1075658719 else 1065353216
def areD (b c : Nat) (k : Int) : Nat := fbin .mul .f32 (fbin .mul .f32 b c) (areC k)
theorem numQ_num {D : Nat} (h : isNaN .f32 D = false) : isNaN .f32 (numQ D) = false := by
  unfold numQ
  split
  · exact h
  · decide +kernel
theorem numI_q (D : Nat) (h : isNaN .f32 D = false) (w : World) : Calls Try.prog 53 #[.float .f32 D] w fun e w' => e = .returned (.tuple #[.float .f32 (numQ D), .bool (isFin .f32 D)]) ∧ ∃ m, w' = w.drewN m := by
  have h1 := numI_any D 0 w
  rw [pick_num h] at h1
  refine h1.mono ?_
  rintro e w' ⟨s, m, rfl, rfl⟩
  exact ⟨by rw [pick_num (numQ_num h)], m, rfl⟩
theorem nan_mul_c {x c : Nat} (hx : isNaN .f32 x = false) (hc : ∃ s m e, FloatKind.f32.format.read c = .number s m e ∧ m ≠ 0) : isNaN .f32 (fbin .mul .f32 x c) = false := by
  obtain ⟨s, m, e, h1, h0⟩ := hc
  apply some_num
  show (((FloatKind.f32.format.read x).product (FloatKind.f32.format.read c)).map FloatKind.f32.format.write).isSome = true
  rcases num_read hx with ⟨t, h2⟩ | ⟨t, n, f, h2⟩
  · rw [h1, h2]
    show ((if m = 0 then none else some (Ieee.Datum.infinity (t ^^ s))).map FloatKind.f32.format.write).isSome = true
    rw [if_neg h0]; rfl
  · rw [h1, h2]; rfl
theorem areC_num (k : Int) : ∃ s m e, FloatKind.f32.format.read (areC k) = .number s m e ∧ m ≠ 0 := by
  unfold areC
  split
  · exact ⟨false, 14868421, -23, by decide +kernel, by decide⟩
  · split
    · exact ⟨false, 13176795, -22, by decide +kernel, by decide⟩
    · split
      · exact ⟨false, 10305503, -22, by decide +kernel, by decide⟩
      · exact ⟨false, 8388608, -23, by decide +kernel, by decide⟩
/-- What both tell. -/
theorem areNo {D : Nat} {R : Nat} {ok k : Bool} {w w' : World} (hR : Hid (R = if k = true then numQ D else 0)) (ho : Hid (ok = (k && isFin .f32 D))) (h : Hid (k = false)) (hb : Below w.heap.size w w') : NRet R ok w (.returned (.tuple #[.float .f32 0, .bool false])) w' := NRet.no hR ho h hb
theorem areYes {D : Nat} {R : Nat} {ok k : Bool} {w w' : World} (hR : Hid (R = if k = true then numQ D else 0)) (ho : Hid (ok = (k && isFin .f32 D))) (h : Hid (k = true)) (hn : Hid (isNaN .f32 D = false)) (hb : Below w.heap.size w w') : NRet R ok w (.returned (.tuple #[.float .f32 (numQ D), .bool (isFin .f32 D)])) w' := by
  have := NRet.yes (s := 0) hR ho h hb
  rw [pick_num (numQ_num hn.out)] at this
  exact this
set_option maxRecDepth 100000 in
set_option maxHeartbeats 3200000 in
theorem specAr_any (a b c : Nat) (k : Int) (w : World) (R : Nat) (ok v : Bool) (hv : v = okLin a b c k) (hR : Hid (R = if v = true then numQ (areD b c k) else 0)) (ho : Hid (ok = (v && isFin .f32 (areD b c k)))) :
    Calls Try.prog 18 #[.agg #[.float .f32 a, .float .f32 b, .float .f32 c, .int .i64 k]] w (NRet R ok w) := by
  have HA := (lnBox_alloc w a b c k 26).at
  have HB := (Below.refl _ w).alloc (Nat.le_refl _) (.cells #[.float .f32 a, .float .f32 b, .float .f32 c, .int .i64 k] 26)
  have HV := Lib.hid hv
  have HL := Lib.hid (l05Line_any _ _ _ _ _ _ _ HA)
  cases v
  · rw [← hv] at HL
    have HNo := Lib.hid (fun w' hb => areNo (w := w) (w' := w') hR ho (Lib.hid rfl) hb)
    clear hv hR ho
    go_enter Try.func18, Try.ntmps18
    go_wp2_with (first | (go_at_call 49; refine HL.out.mono ?_; rintro e w' ⟨rfl, q, rfl⟩) | go_in)
    go_ret2
    exact HNo.out _ (Below.drewN HB _)
  · rw [← hv] at HL
    obtain ⟨h1, h2, h3, h4, h5⟩ := okLin_at hv.symm
    have hf3 : isFin .f32 c = true := by unfold isP at h3; rw [Bool.and_eq_true] at h3; exact h3.1
    obtain ⟨P, hP⟩ : ∃ P, fbin .mul .f32 b c = P := ⟨_, rfl⟩
    obtain ⟨D, hD⟩ : ∃ D, areD b c k = D := ⟨_, rfl⟩
    have nP : isNaN .f32 P = false := by rw [← hP]; exact nan_mul h2 hf3
    have nD : isNaN .f32 D = false := by rw [← hD, areD, hP]; exact nan_mul_c nP (areC_num k)
    rw [hD] at hR ho
    have HYe := Lib.hid (fun w' hb => areYes (w := w) (w' := w') hR ho (Lib.hid rfl) (Lib.hid nD) hb)
    clear hR ho
    have pP := fun s => pick_num (s := s) nP
    have pD := fun s => pick_num (s := s) nD
    have pN := fun s => pick_num (s := s) (numQ_num nD)
    have HQ := Lib.hid (fun w => numS_any D 0 w)
    rw [pD] at HQ
    rw [areD, hP] at hD
    clear hv h1 h2 h3 hf3 nP nD HA
    rcases (by omega : k = 0 ∨ k = 1 ∨ k = 2 ∨ k = 3) with rfl | rfl | rfl | rfl
    all_goals simp only [areC, if_true, if_false, Int.reduceEq] at hD
    all_goals go_enter Try.func18, Try.ntmps18
    all_goals go_wp2_with (first | ((with_reducible refine wpL_fbin ?_); refine ⟨_, _, _, rfl, rfl, rfl, fun s n => ?_⟩) | (go_at_call 49; refine HL.out.mono ?_; rintro e w' ⟨rfl, q, rfl⟩) | (go_at_call 52; refine (HQ.out _).mono ?_; rintro e w' ⟨s', m', rfl, rfl⟩) | go_in)
    all_goals go_ret2
    all_goals exact HYe.out _ (Below.drewN HB _)
set_option maxRecDepth 100000 in
set_option maxHeartbeats 6400000 in
theorem implAr_any (a b c : Nat) (k : Int) (w : World) (R : Nat) (ok v : Bool) (hv : v = okLin a b c k) (hR : Hid (R = if v = true then numQ (areD b c k) else 0)) (ho : Hid (ok = (v && isFin .f32 (areD b c k)))) :
    Calls Try.prog 19 #[.agg #[.float .f32 a, .float .f32 b, .float .f32 c, .int .i64 k]] w (NRet R ok w) := by
  have HA := lnBox_alloc w a b c k 26
  have HB := (Below.refl _ w).alloc (Nat.le_refl _) (.cells #[.float .f32 a, .float .f32 b, .float .f32 c, .int .i64 k] 26)
  have HL := Lib.hid (fun w => implVL_any a b c k w)
  have hst := run_store_f32
  cases v
  · rw [← hv] at HL
    have HNo := Lib.hid (fun w' hb => areNo (w := w) (w' := w') hR ho (Lib.hid rfl) hb)
    clear hv hR ho
    go_enter Try.func19, Try.ntmps19
    go_wp2_with (first | (go_at_call 17; refine (HL.out _).mono ?_; rintro e w1 ⟨rfl, B0⟩))
    go_ret2
    exact HNo.out _ (HB.trans (B0.mono HB.size))
  · rw [← hv] at HL
    obtain ⟨h1, h2, h3, h4, h5⟩ := okLin_at hv.symm
    have hf3 : isFin .f32 c = true := by unfold isP at h3; rw [Bool.and_eq_true] at h3; exact h3.1
    obtain ⟨P, hP⟩ : ∃ P, fbin .mul .f32 b c = P := ⟨_, rfl⟩
    obtain ⟨D, hD⟩ : ∃ D, areD b c k = D := ⟨_, rfl⟩
    have nP : isNaN .f32 P = false := by rw [← hP]; exact nan_mul h2 hf3
    have nD : isNaN .f32 D = false := by rw [← hD, areD, hP]; exact nan_mul_c nP (areC_num k)
    rw [hD] at hR ho
    have HYe := Lib.hid (fun w' hb => areYes (w := w) (w' := w') hR ho (Lib.hid rfl) (Lib.hid nD) hb)
    clear hR ho
    have HQ := Lib.hid (fun w => numI_q D nD w)
    rw [areD, hP] at hD
    have q1 := fun t => run_numop (op := .mul) rfl t _ _ _ hP nP
    clear hv h1 h2 h3 hf3 nP
    rcases (by omega : k = 0 ∨ k = 1 ∨ k = 2 ∨ k = 3) with rfl | rfl | rfl | rfl
    all_goals simp only [areC, if_true, if_false, Int.reduceEq] at hD
    all_goals have q2 := fun t => run_numop (op := .mul) rfl t _ _ _ hD nD
    all_goals clear hD hP nD
    all_goals go_enter Try.func19, Try.ntmps19
    all_goals go_wp2_with (first | (go_at_call 17; refine (HL.out _).mono ?_; rintro e w1 ⟨rfl, B0⟩; obtain ⟨p0, p1, p2, p3⟩ := HA.below B0; have HE := HB.trans (B0.mono HB.size); have hz : w.heap.size < w1.heap.size := World.block_lt_of_cell? w1 _ p0; clear HA HB B0))
    all_goals go_quiet ((go_at_call 53; refine Calls.quiet_of (HQ.out _)))
    all_goals go_wp2
    all_goals go_ret2
    all_goals refine HYe.out _ ?_
    all_goals refine HE.trans ?_
    all_goals refine Below.mono ?_ HE.size
    all_goals (repeat (first | with_reducible exact Below.refl _ _ | with_reducible refine Below.drewN ?_ _ | with_reducible refine Below.setCell ?_ (by simp; try omega) _ | with_reducible refine Below.alloc ?_ (by simp; try omega) _))
end Go.Proofs.Ytaobjilnbbpmeaa
