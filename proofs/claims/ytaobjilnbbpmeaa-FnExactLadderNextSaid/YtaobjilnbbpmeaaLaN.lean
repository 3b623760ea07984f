/- Of any places the program tells the next place of a ladder just where the model does, and the same; the places are not changed: for all arguments. -/
import Derived.Test.YtaobjilnbbpmeaaSame
import Derived.Test.YtaobjilnbbpmeaaLad
import Derived.Deep.QuietTactic
import Derived.BigQuiet
import Derived.Laws.Cover3
import Derived.Test.YtaobjilnbbpmeaaLiC
import Derived.Test.YtaobjilnbbpmeaaLaw
namespace Go.Proofs.Ytaobjilnbbpmeaa
open Go Go.ChangeShapes Go.WideShapes Go.ChangeAt Go.RowKit

/-- What is told of LadderNext. -/
def RetLadderNext (r0 : Nat) (r1 : Bool) (w : World) (e : Ending) (w' : World) : Prop := ∃ (s0 : Nat), e = .returned (.tuple #[.float .f32 (pick .f32 r0 s0), .bool r1]) ∧ Below w.heap.size w w'
def ladN (X : Nat → Nat) (m : Nat) : Nat := fbin .add .f32 (fbin .sub .f32 (fbin .mul .f32 1077936128 (X (m + 2))) (fbin .mul .f32 1077936128 (X (m + 1)))) (X m)
def nxtOk (X : Nat → Nat) (n : Nat) : Bool := okLad X n && isFin .f32 (ladN X (n - 3))
theorem nxtNo {w w' : World} (hb : Below w.heap.size w w') : RetLadderNext 0 false w (.returned (.tuple #[.float .f32 0, .bool false])) w' := by
  refine ⟨0, ?_, hb⟩
  rw [pick_nul]
theorem nxtYes {D s : Nat} {r : Nat} {ok : Bool} {w w' : World} (hr : Hid (r = if ok = true then D else 0)) (ho : Hid (ok = isFin .f32 D)) (hb : Below w.heap.size w w') : RetLadderNext r ok w (.returned (.tuple #[.float .f32 (pick .f32 (numQ D) s), .bool (isFin .f32 D)])) w' := by
  refine ⟨s, ?_, hb⟩
  rw [hr.out, ← ho.out, numQ, ← ho.out]
theorem numQ_num' {D : Nat} (h : isNaN .f32 D = false) : isNaN .f32 (numQ D) = false := by
  unfold numQ
  split
  · exact h
  · decide +kernel
theorem numS_q (D : Nat) (h : isNaN .f32 D = false) (w : World) : Calls Try.prog 52 #[.float .f32 D] w fun e w' => e = .returned (.tuple #[.float .f32 (numQ D), .bool (isFin .f32 D)]) ∧ ∃ m, w' = w.drewN m := by
  have h1 := numS_any D 0 w
  rw [pick_num h] at h1
  refine h1.mono ?_
  rintro e w' ⟨s, m, rfl, rfl⟩
  exact ⟨by rw [pick_num (numQ_num' h)], m, rfl⟩
theorem quiet_p {P : Program} {f : FuncId} {args : Array Value} {w : World} {m n : Nat} {v : Value} (h : Calls P f args (w.drewN (m + n)) fun e w' => e = .returned v ∧ ∃ q, w' = (w.drewN (m + n)).drewN q) : Calls P f args (w.drewN (m + n)) fun e w'' => e = .returned v ∧ ∃ k, w'' = w.drewN (m + k) :=
  h.mono fun _ _ ⟨he, q, hq⟩ => ⟨he, n + q, by rw [hq, World.drewN_drewN, Nat.add_assoc]⟩
theorem nxtYesQ {D : Nat} {r : Nat} {ok : Bool} {w w' : World} (hr : Hid (r = if ok = true then D else 0)) (ho : Hid (ok = isFin .f32 D)) (hb : Below w.heap.size w w') : RetLadderNext r ok w (.returned (.tuple #[.float .f32 r, .bool ok])) w' := by
  refine ⟨0, ?_, hb⟩
  have : pick .f32 r 0 = r := by
    rw [hr.out]
    cases h : ok
    · rw [if_neg (by simp), pick_nul]
    · rw [if_pos rfl]
      have h1 := ho.out
      rw [h] at h1
      exact pick_num (num_fin h1.symm) 0
  rw [this]
set_option maxRecDepth 100000 in
set_option maxHeartbeats 3200000 in
theorem specLN_any (xa : Option Addr) (n cap : Nat) (X : Nat → Nat) (w : World) (hX : Rd w xa n X) (hn : n ≤ 1048576) (r : Nat) (ok : Bool) (ho : ok = nxtOk X n) (hr : r = if ok = true then ladN X (n - 3) else 0) :
    Calls Try.prog 41 #[.slice xa n cap] w (RetLadderNext r ok w) := by
  obtain ⟨k, hk⟩ : ∃ k, k = okLad X n := ⟨_, rfl⟩
  have HK := Lib.hid hk
  have HL := Lib.hid (fun w hX => specLad_any xa n cap X w hX hn k HK)
  cases k
  · have e : ok = false := by rw [ho, nxtOk, ← hk]; rfl
    subst e
    rw [if_neg (by simp)] at hr
    subst hr
    clear hk HK ho
    go_enter Try.func41, Try.ntmps41
    go_wp2_with (go_at_call 64; refine (HL.out _ (by exact hX)).mono ?_; rintro e w' ⟨rfl, q, rfl⟩)
    go_ret2
    refine nxtNo ?_
    (repeat (first | with_reducible exact Below.refl _ _ | with_reducible refine Below.drewN ?_ _ | with_reducible refine Below.setCell ?_ (by simp; try omega) _ | with_reducible refine Below.alloc ?_ (by simp; try omega) _))
  · obtain ⟨h1, h3, h4⟩ := okLad_at hk.symm
    rw [nxtOk, ← hk, Bool.true_and] at ho
    obtain ⟨m, rfl⟩ : ∃ m, n = m + 3 := ⟨n - 3, by omega⟩
    rw [show m + 3 - 3 = m by omega] at ho hr
    have HX := hX
    obtain ⟨xb, xo, hxa, hcx⟩ := hX
    have e := hxa (by omega)
    subst e
    have r0 := hcx m (by omega)
    have r1 := hcx (m + 1) (by omega)
    have r2 := hcx (m + 2) (by omega)
    obtain ⟨Y, hY⟩ : ∃ Y, Y = ladN X m := ⟨_, rfl⟩
    have eY : fbin .add .f32 (fbin .sub .f32 (fbin .mul .f32 1077936128 (X (m + 2))) (fbin .mul .f32 1077936128 (X (m + 1)))) (X m) = Y := hY.symm
    rw [← hY] at ho hr
    have HO := Lib.hid ho
    have HR := Lib.hid hr
    obtain ⟨M2, hM2⟩ : ∃ M2, fbin .mul .f32 1077936128 (X (m + 2)) = M2 := ⟨_, rfl⟩
    obtain ⟨M1, hM1⟩ : ∃ M1, fbin .mul .f32 1077936128 (X (m + 1)) = M1 := ⟨_, rfl⟩
    obtain ⟨S, hS⟩ : ∃ S, fbin .sub .f32 M2 M1 = S := ⟨_, rfl⟩
    rw [hM2, hM1, hS] at eY
    have n2 : isNaN .f32 M2 = false := by rw [← hM2]; exact nan_mul (by decide +kernel) (finL_at h1 (m + 2) (by omega))
    have n1 : isNaN .f32 M1 = false := by rw [← hM1]; exact nan_mul (by decide +kernel) (finL_at h1 (m + 1) (by omega))
    have q1 := fun t => run_numop (op := .mul) rfl t _ _ _ hM2 n2
    have q2 := fun t => run_numop (op := .mul) rfl t _ _ _ hM1 n1
    have u1 : (0 : Int) ≤ (m : Int) + 1 := by omega
    have u2 : (0 : Int) ≤ (m : Int) + 2 := by omega
    have v0 : (m : Int) < (m : Int) + 3 := by omega
    have v1 : (m : Int) + 1 < (m : Int) + 3 := by omega
    have v2 : (m : Int) + 2 < (m : Int) + 3 := by omega
    have t1 : ((m : Int) + 1).toNat = m + 1 := by omega
    have t2 : ((m : Int) + 2).toNat = m + 2 := by omega
    have w1 : (m : Int) + 3 - 1 = (m : Int) + 2 := by omega
    have w2 : (m : Int) + 3 - 2 = (m : Int) + 1 := by omega
    have w3 : (m : Int) + 3 - 3 = (m : Int) := by omega
    have hwa : IntKind.i64.wrap (m : Int) = (m : Int) := IntWalk.i64_in _ (by omega)
    have hwb : IntKind.i64.wrap ((m : Int) + 1) = (m : Int) + 1 := IntWalk.i64_in _ (by omega)
    have hwc : IntKind.i64.wrap ((m : Int) + 2) = (m : Int) + 2 := IntWalk.i64_in _ (by omega)
    have f0 := finL_at h1 m (by omega)
    clear hcx hxa h1 hk HK hY ho hr hM2 hM1 n2 n1
    cases d : isNaN .f32 S
    · have nY : isNaN .f32 Y = false := by rw [← eY]; exact nan_add d f0
      have q3 := fun t => run_numop (op := .sub) rfl t _ _ _ hS d
      have q4 := fun t => run_numop (op := .add) rfl t _ _ _ eY nY
      have HQ := Lib.hid (fun w => numS_q Y nY w)
      have HE := Lib.hid (show numQ Y = r ∧ isFin .f32 Y = ok from ⟨by rw [HR.out, numQ, ← HO.out], HO.out.symm⟩)
      clear hS d nY eY f0
      go_enter Try.func41, Try.ntmps41
      go_wp2_with (go_at_call 64; refine (HL.out _ (by exact HX)).mono ?_; rintro e w' ⟨rfl, q, rfl⟩)
      go_quiet ((go_at_call 52; first | exact Calls.quiet_of (HQ.out _) | exact quiet_p (HQ.out _)))
      go_wp2
      go_ret2
      rw [HE.out.1, HE.out.2]
      refine nxtYesQ HR HO ?_
      (repeat (first | with_reducible exact Below.refl _ _ | with_reducible refine Below.drewN ?_ _ | with_reducible refine Below.setCell ?_ (by simp; try omega) _ | with_reducible refine Below.alloc ?_ (by simp; try omega) _))
    · have q3 := run_sub32
      have q4 := run_add32
      clear f0
      go_enter Try.func41, Try.ntmps41
      go_wp2_with (go_at_call 64; refine (HL.out _ (by exact HX)).mono ?_; rintro e w' ⟨rfl, q, rfl⟩)
      go_region_with (first | (go_at_call 52; refine (numS_any _ _ _).mono ?_; rintro e w' ⟨s', m', rfl, rfl⟩))
      all_goals go_wp2
      all_goals go_ret2
      all_goals simp only [fbin_pick_l, eY]
      all_goals refine nxtYes HR HO ?_
      all_goals (repeat (first | with_reducible exact Below.refl _ _ | with_reducible refine Below.drewN ?_ _ | with_reducible refine Below.setCell ?_ (by simp; try omega) _ | with_reducible refine Below.alloc ?_ (by simp; try omega) _))
set_option maxRecDepth 100000 in
set_option maxHeartbeats 3200000 in
theorem implLN_any (xa : Option Addr) (n cap : Nat) (X : Nat → Nat) (w : World) (hX : Rd w xa n X) (hcp : n ≤ cap) (hn : n ≤ 1048576) (r : Nat) (ok : Bool) (ho : ok = nxtOk X n) (hr : r = if ok = true then ladN X (n - 3) else 0) :
    Calls Try.prog 42 #[.slice xa n cap] w (RetLadderNext r ok w) := by
  obtain ⟨k, hk⟩ : ∃ k, k = okLad X n := ⟨_, rfl⟩
  have HK := Lib.hid hk
  have HL := Lib.hid (fun w hX => implLad_any xa n cap X w hX hn k HK)
  cases k
  · have e : ok = false := by rw [ho, nxtOk, ← hk]; rfl
    subst e
    rw [if_neg (by simp)] at hr
    subst hr
    clear hk HK ho
    go_enter Try.func42, Try.ntmps42
    go_wp2_with (go_at_call 65; refine (HL.out _ (by exact hX)).mono ?_; rintro e w' ⟨rfl, q, rfl⟩)
    go_ret2
    refine nxtNo ?_
    (repeat (first | with_reducible exact Below.refl _ _ | with_reducible refine Below.drewN ?_ _ | with_reducible refine Below.setCell ?_ (by simp; try omega) _ | with_reducible refine Below.alloc ?_ (by simp; try omega) _))
  · obtain ⟨h1, h3, h4⟩ := okLad_at hk.symm
    rw [nxtOk, ← hk, Bool.true_and] at ho
    obtain ⟨m, rfl⟩ : ∃ m, n = m + 3 := ⟨n - 3, by omega⟩
    rw [show m + 3 - 3 = m by omega] at ho hr
    have HX := hX
    obtain ⟨xb, xo, hxa, hcx⟩ := hX
    have e := hxa (by omega)
    subst e
    have r0 := hcx m (by omega)
    have r1 := hcx (m + 1) (by omega)
    have r2 := hcx (m + 2) (by omega)
    obtain ⟨Y, hY⟩ : ∃ Y, Y = ladN X m := ⟨_, rfl⟩
    have eY : fbin .add .f32 (fbin .sub .f32 (fbin .mul .f32 1077936128 (X (m + 2))) (fbin .mul .f32 1077936128 (X (m + 1)))) (X m) = Y := hY.symm
    rw [← hY] at ho hr
    have HO := Lib.hid ho
    have HR := Lib.hid hr
    have hp := fun op => fbin_pick_l op .f32
    have hq := fun op => fbin_pick_r op .f32
    have hst := run_store_f32
    rw [← Nat.add_assoc] at r1 r2
    have hk3 : m + 3 - m = 3 := by omega
    have hcap : (m : Int) + 3 ≤ (cap : Int) := by omega
    have hwa : (m : Int) + 3 - 3 = (m : Int) := by omega
    have hat : ∀ w, (Instr.arrayAt 70 (.slice (some ⟨xb, xo + m, none⟩) 3 (cap - m))).run Try.prog w = .ok (.pointer (some ⟨xb, xo + m, none⟩)) w := fun w => run_arrayAt w 70 _ 3 _ 3 (cap - m) Try.underlying70 (Nat.le_refl _)
    clear hcx hxa h1 hk HK hY ho hr
    go_enter Try.func42, Try.ntmps42
    go_wp2_with (first | (first | ((with_reducible refine wpL_fbin ?_); refine ⟨_, _, _, rfl, rfl, rfl, fun s n => ?_⟩) | (go_at_call 53; refine (numI_any _ _ _).mono ?_; rintro e w' ⟨s', m', rfl, rfl⟩)) | (go_at_call 65; refine (HL.out _ (by exact HX)).mono ?_; rintro e w1 ⟨rfl, q, hw1⟩; have B1 : Below w.heap.size w w1 := (by rw [hw1]; exact Below.drewN (Below.refl _ _) _); rw [show w.cell? ⟨xb, xo + m, none⟩ = w1.cell? ⟨xb, xo + m, none⟩ from (by rw [hw1]; rfl)] at r0; rw [show w.cell? ⟨xb, xo + m + 1, none⟩ = w1.cell? ⟨xb, xo + m + 1, none⟩ from (by rw [hw1]; rfl)] at r1; rw [show w.cell? ⟨xb, xo + m + 2, none⟩ = w1.cell? ⟨xb, xo + m + 2, none⟩ from (by rw [hw1]; rfl)] at r2; clear hw1 HX))
    go_ret2
    refine nxtYes HR HO (B1.trans ?_)
    refine Below.mono ?_ B1.size
    (repeat (first | with_reducible exact Below.refl _ _ | with_reducible refine Below.drewN ?_ _ | with_reducible refine Below.setCell ?_ (by simp; try omega) _ | with_reducible refine Below.alloc ?_ (by simp; try omega) _))
end Go.Proofs.Ytaobjilnbbpmeaa
