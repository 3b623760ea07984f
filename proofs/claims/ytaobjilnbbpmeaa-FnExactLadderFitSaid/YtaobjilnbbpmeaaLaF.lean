/- Of any places the program tells the numbers of a ladder, and its next place, just where the model does, and the same; the places are not changed: for all arguments. -/
import Derived.Test.YtaobjilnbbpmeaaSame
import Derived.Test.YtaobjilnbbpmeaaLad
import Derived.Deep.QuietTactic
import Derived.BigQuiet
import Derived.StillTailTactics
import Derived.Laws.Cover3
import Derived.Test.YtaobjilnbbpmeaaLiC
import Derived.Test.YtaobjilnbbpmeaaLaw
namespace Go.Proofs.Ytaobjilnbbpmeaa
open Go Go.ChangeShapes Go.WideShapes Go.ChangeAt Go.RowKit

/-- What is told of LadderFit. -/
def RetLadderFit (r0 : Nat) (r1 : Nat) (r2 : Nat) (r3 : Bool) (w : World) (e : Ending) (w' : World) : Prop := ∃ (s0 : Nat) (s1 : Nat) (s2 : Nat), e = .returned (.tuple #[.float .f32 (pick .f32 r0 s0), .float .f32 (pick .f32 r1 s1), .float .f32 (pick .f32 r2 s2), .bool r3]) ∧ Below w.heap.size w w'
def ladC (X : Nat → Nat) : Nat := fbin .mul .f32 1056964608 (fbin .add .f32 (fbin .sub .f32 (X 2) (fbin .mul .f32 1073741824 (X 1))) (X 0))
def ladB (X : Nat → Nat) : Nat := fbin .sub .f32 (fbin .sub .f32 (X 1) (X 0)) (ladC X)
def ladOk (X : Nat → Nat) (n : Nat) : Bool := okLad X n && (isFin .f32 (ladB X) && isFin .f32 (ladC X))
theorem ladNo {w w' : World} (hb : Below w.heap.size w w') : RetLadderFit 0 0 0 false w (.returned (.tuple #[.float .f32 0, .float .f32 0, .float .f32 0, .bool false])) w' := by
  refine ⟨0, 0, 0, ?_, hb⟩
  rw [pick_nul]
theorem ladYesC {A B C s : Nat} {w w' : World} (hA : isNaN .f32 A = false) (hC : pick .f32 C 0 = C) (hb : Below w.heap.size w w') : RetLadderFit A B C true w (.returned (.tuple #[.float .f32 A, .float .f32 (pick .f32 B s), .float .f32 C, .bool true])) w' :=
  ⟨0, s, 0, by rw [pick_num hA, hC], hb⟩
theorem ladYes {A B C s t : Nat} {w w' : World} (hA : isNaN .f32 A = false) (hb : Below w.heap.size w w') : RetLadderFit A B C true w (.returned (.tuple #[.float .f32 A, .float .f32 (pick .f32 B s), .float .f32 (pick .f32 C t), .bool true])) w' :=
  ⟨0, s, t, by rw [pick_num hA], hb⟩
set_option maxRecDepth 100000 in
set_option maxHeartbeats 3200000 in
theorem specLF_any (xa : Option Addr) (n cap : Nat) (X : Nat → Nat) (w : World) (hX : Rd w xa n X) (hn : n ≤ 1048576) (A B C : Nat) (ok : Bool) (ho : ok = ladOk X n) (hA : A = if ok = true then X 0 else 0) (hB : B = if ok = true then ladB X else 0) (hC : C = if ok = true then ladC X else 0) :
    Calls Try.prog 39 #[.slice xa n cap] w (RetLadderFit A B C ok w) := by
  obtain ⟨k, hk⟩ : ∃ k, k = okLad X n := ⟨_, rfl⟩
  have HK := Lib.hid hk
  have HL := Lib.hid (fun w hX => specLad_any xa n cap X w hX hn k HK)
  cases k
  · have e : ok = false := by rw [ho, ladOk, ← hk]; rfl
    subst e
    rw [if_neg (by simp)] at hA hB hC
    subst hA; subst hB; subst hC
    clear hk HK ho
    go_enter Try.func39, Try.ntmps39
    go_wp2_with (go_at_call 64; refine (HL.out _ (by exact hX)).mono ?_; rintro e w' ⟨rfl, q, rfl⟩)
    ((try simp only [Exit.inBlock, Exit.then]); refine bodyPost_ret (results_tmp4 rfl _ _ _) rfl ?_)
    refine ladNo ?_
    (repeat (first | with_reducible exact Below.refl _ _ | with_reducible refine Below.drewN ?_ _ | with_reducible refine Below.setCell ?_ (by simp; try omega) _ | with_reducible refine Below.alloc ?_ (by simp; try omega) _))
  · obtain ⟨h1, h3, h4⟩ := okLad_at hk.symm
    have n0 := num_fin (finL_at h1 0 (by omega))
    rw [ladOk, ← hk, Bool.true_and] at ho
    have HX := hX
    obtain ⟨xb, xo, hxa, hcx⟩ := hX
    have e := hxa (by omega)
    subst e
    have b0 : (0 : Int) < (n : Int) := by omega
    have bn0 : 0 < n := by omega
    have b1 : (1 : Int) < (n : Int) := by omega
    have b2 : (2 : Int) < (n : Int) := by omega
    have r0 := hcx 0 (by omega)
    have r1 := hcx 1 (by omega)
    have r2 := hcx 2 (by omega)
    rw [Nat.add_zero] at r0
    obtain ⟨YC, hYC⟩ : ∃ YC, YC = ladC X := ⟨_, rfl⟩
    obtain ⟨YB, hYB⟩ : ∃ YB, YB = ladB X := ⟨_, rfl⟩
    have eC : fbin .mul .f32 1056964608 (fbin .add .f32 (fbin .sub .f32 (X 2) (fbin .mul .f32 1073741824 (X 1))) (X 0)) = YC := hYC.symm
    have eB : fbin .sub .f32 (fbin .sub .f32 (X 1) (X 0)) YC = YB := by rw [hYB, ladB, ← hYC]
    rw [← hYB] at hB ho
    rw [← hYC] at hC ho
    have hip := isFin_pick .f32
    obtain ⟨M, hM⟩ : ∃ M, fbin .mul .f32 1073741824 (X 1) = M := ⟨_, rfl⟩
    obtain ⟨S, hS⟩ : ∃ S, fbin .sub .f32 (X 2) M = S := ⟨_, rfl⟩
    obtain ⟨A0, hA0⟩ : ∃ A0, fbin .add .f32 S (X 0) = A0 := ⟨_, rfl⟩
    obtain ⟨U, hU⟩ : ∃ U, fbin .sub .f32 (X 1) (X 0) = U := ⟨_, rfl⟩
    rw [hM, hS, hA0] at eC
    rw [hU] at eB
    have n1 : isNaN .f32 M = false := by rw [← hM]; exact nan_mul (by decide +kernel) (finL_at h1 1 (by omega))
    have n2 : isNaN .f32 S = false := by rw [← hS]; exact nan_sub_l (finL_at h1 2 (by omega)) n1
    have n3 : isNaN .f32 A0 = false := by rw [← hA0]; exact nan_add n2 (finL_at h1 0 (by omega))
    have n4 : isNaN .f32 YC = false := by rw [← eC]; exact nan_mul_fin ⟨_, _, _, read_halfW, by decide⟩ n3
    have n5 : isNaN .f32 U = false := by rw [← hU]; exact nan_sub_l (finL_at h1 1 (by omega)) (num_fin (finL_at h1 0 (by omega)))
    have q1 := fun t => run_numop (op := .mul) rfl t _ _ _ hM n1
    have q2 := fun t => run_numop (op := .sub) rfl t _ _ _ hS n2
    have q3 := fun t => run_numop (op := .add) rfl t _ _ _ hA0 n3
    have q4 := fun t => run_numop (op := .mul) rfl t _ _ _ eC n4
    have q5 := fun t => run_numop (op := .sub) rfl t _ _ _ hU n5
    have HC4 := Lib.hid (fun s => pick_num (s := s) n4)
    clear hM hS hA0 hU eC n1 n2 n3 n4 n5
    clear hcx hxa h1 hk HK hYB hYC
    cases c1 : isFin .f32 YB
    · rw [c1] at ho
      have e : ok = false := by rw [ho]; rfl
      subst e
      rw [if_neg (by simp)] at hA hB hC
      subst hA; subst hB; subst hC
      clear ho n0
      go_enter Try.func39, Try.ntmps39
      go_wp2_with (go_at_call 64; refine (HL.out _ (by exact HX)).mono ?_; rintro e w' ⟨rfl, q, rfl⟩)
      go_quiet (fail)
      have BZ := Below.drewN (Below.drewN (Below.refl w.heap.size w) q) nq
      have r0z : ((w.drewN q).drewN nq).cell? ⟨xb, xo, none⟩ = some (.float .f32 (X 0)) := r0
      have r1z : ((w.drewN q).drewN nq).cell? ⟨xb, xo + 1, none⟩ = some (.float .f32 (X 1)) := r1
      generalize (w.drewN q).drewN nq = wz at BZ r0z r1z ⊢
      go_wp2_with fail
      go_still_tail 8, (by kernel_rfl)
      change wpList _ _ _ _ _ wz.drew
      have hEw : wz.drew = wz.drewN 1 := rfl
      rw [hEw]
      clear hEw
      go_wp2_with (first | ((with_reducible refine wpL_fbin ?_); refine ⟨_, _, _, rfl, rfl, rfl, fun s n => ?_⟩) | (go_at_call 56; refine (l01Finite_any _ _).mono ?_; rintro e w' ⟨rfl, q, rfl⟩))
      ((try simp only [Exit.inBlock, Exit.then]); refine bodyPost_ret (results_tmp4 rfl _ _ _) rfl ?_)
      exact ladNo (Below.drewN BZ _)
    · rw [c1, Bool.true_and] at ho
      cases c2 : isFin .f32 YC
      · rw [c2] at ho
        subst ho
        rw [if_neg (by simp)] at hA hB hC
        subst hA; subst hB; subst hC
        clear n0
        go_enter Try.func39, Try.ntmps39
        go_wp2_with (go_at_call 64; refine (HL.out _ (by exact HX)).mono ?_; rintro e w' ⟨rfl, q, rfl⟩)
        go_quiet (fail)
        have BZ := Below.drewN (Below.drewN (Below.refl w.heap.size w) q) nq
        have r0z : ((w.drewN q).drewN nq).cell? ⟨xb, xo, none⟩ = some (.float .f32 (X 0)) := r0
        have r1z : ((w.drewN q).drewN nq).cell? ⟨xb, xo + 1, none⟩ = some (.float .f32 (X 1)) := r1
        generalize (w.drewN q).drewN nq = wz at BZ r0z r1z ⊢
        go_wp2_with fail
        go_still_tail 8, (by kernel_rfl)
        change wpList _ _ _ _ _ wz.drew
        have hEw : wz.drew = wz.drewN 1 := rfl
        rw [hEw]
        clear hEw
        go_wp2_with (first | ((with_reducible refine wpL_fbin ?_); refine ⟨_, _, _, rfl, rfl, rfl, fun s n => ?_⟩) | (go_at_call 56; refine (l01Finite_any _ _).mono ?_; rintro e w' ⟨rfl, q, rfl⟩))
        ((try simp only [Exit.inBlock, Exit.then]); refine bodyPost_ret (results_tmp4 rfl _ _ _) rfl ?_)
        exact ladNo (Below.drewN BZ _)
      · rw [c2] at ho
        subst ho
        rw [if_pos rfl] at hA hB hC
        subst hA; subst hB; subst hC
        have HN := Lib.hid n0
        clear n0
        go_enter Try.func39, Try.ntmps39
        go_wp2_with (go_at_call 64; refine (HL.out _ (by exact HX)).mono ?_; rintro e w' ⟨rfl, q, rfl⟩)
        go_quiet (fail)
        have BZ := Below.drewN (Below.drewN (Below.refl w.heap.size w) q) nq
        have r0z : ((w.drewN q).drewN nq).cell? ⟨xb, xo, none⟩ = some (.float .f32 (X 0)) := r0
        have r1z : ((w.drewN q).drewN nq).cell? ⟨xb, xo + 1, none⟩ = some (.float .f32 (X 1)) := r1
        generalize (w.drewN q).drewN nq = wz at BZ r0z r1z ⊢
        go_wp2_with fail
        go_still_tail 8, (by kernel_rfl)
        change wpList _ _ _ _ _ wz.drew
        have hEw : wz.drew = wz.drewN 1 := rfl
        rw [hEw]
        clear hEw
        go_wp2_with (first | ((with_reducible refine wpL_fbin ?_); refine ⟨_, _, _, rfl, rfl, rfl, fun s n => ?_⟩) | (go_at_call 56; refine (l01Finite_any _ _).mono ?_; rintro e w' ⟨rfl, q, rfl⟩))
        ((try simp only [Exit.inBlock, Exit.then]); refine bodyPost_ret (results_tmp4 rfl _ _ _) rfl ?_)
        exact ladYesC HN.out (HC4.out 0) (Below.drewN BZ _)
set_option maxRecDepth 100000 in
set_option maxHeartbeats 3200000 in
theorem implLF_any (xa : Option Addr) (n cap : Nat) (X : Nat → Nat) (w : World) (hX : Rd w xa n X) (hcp : n ≤ cap) (hn : n ≤ 1048576) (A B C : Nat) (ok : Bool) (ho : ok = ladOk X n) (hA : A = if ok = true then X 0 else 0) (hB : B = if ok = true then ladB X else 0) (hC : C = if ok = true then ladC X else 0) :
    Calls Try.prog 40 #[.slice xa n cap] w (RetLadderFit A B C ok w) := by
  obtain ⟨k, hk⟩ : ∃ k, k = okLad X n := ⟨_, rfl⟩
  have HK := Lib.hid hk
  have HL := Lib.hid (fun w hX => implLad_any xa n cap X w hX hn k HK)
  cases k
  · have e : ok = false := by rw [ho, ladOk, ← hk]; rfl
    subst e
    rw [if_neg (by simp)] at hA hB hC
    subst hA; subst hB; subst hC
    clear hk HK ho
    go_enter Try.func40, Try.ntmps40
    go_wp2_with (go_at_call 65; refine (HL.out _ (by exact hX)).mono ?_; rintro e w' ⟨rfl, q, rfl⟩)
    ((try simp only [Exit.inBlock, Exit.then]); refine bodyPost_ret (results_tmp4 rfl _ _ _) rfl ?_)
    refine ladNo ?_
    (repeat (first | with_reducible exact Below.refl _ _ | with_reducible refine Below.drewN ?_ _ | with_reducible refine Below.setCell ?_ (by simp; try omega) _ | with_reducible refine Below.alloc ?_ (by simp; try omega) _))
  · obtain ⟨h1, h3, h4⟩ := okLad_at hk.symm
    have n0 := num_fin (finL_at h1 0 (by omega))
    rw [ladOk, ← hk, Bool.true_and] at ho
    have HX := hX
    obtain ⟨xb, xo, hxa, hcx⟩ := hX
    have e := hxa (by omega)
    subst e
    have b0 : (0 : Int) < (n : Int) := by omega
    have bn0 : 0 < n := by omega
    have b1 : (1 : Int) < (n : Int) := by omega
    have b2 : (2 : Int) < (n : Int) := by omega
    have r0 := hcx 0 (by omega)
    have r1 := hcx 1 (by omega)
    have r2 := hcx 2 (by omega)
    rw [Nat.add_zero] at r0
    obtain ⟨YC, hYC⟩ : ∃ YC, YC = ladC X := ⟨_, rfl⟩
    obtain ⟨YB, hYB⟩ : ∃ YB, YB = ladB X := ⟨_, rfl⟩
    have eC : fbin .mul .f32 1056964608 (fbin .add .f32 (fbin .sub .f32 (X 2) (fbin .mul .f32 1073741824 (X 1))) (X 0)) = YC := hYC.symm
    have eB : fbin .sub .f32 (fbin .sub .f32 (X 1) (X 0)) YC = YB := by rw [hYB, ladB, ← hYC]
    rw [← hYB] at hB ho
    rw [← hYC] at hC ho
    have hh : ∀ x, fbin .quo .f32 x 1073741824 = fbin .mul .f32 1056964608 x := fun x => (half_eq x).symm
    have hp := fun op => fbin_pick_l op .f32
    have hq := fun op => fbin_pick_r op .f32
    have hst := run_store_f32
    have hat : ∀ w, (Instr.arrayAt 70 (.slice (some ⟨xb, xo, none⟩) 3 cap)).run Try.prog w = .ok (.pointer (some ⟨xb, xo, none⟩)) w := fun w => run_arrayAt w 70 _ 3 _ 3 cap Try.underlying70 (Nat.le_refl _)
    have hc3 : (3 : Int) ≤ (cap : Int) := by omega
    clear hcx hxa h1 hk HK hYB hYC
    cases ok
    · rw [if_neg (by simp)] at hA hB hC
      subst hA; subst hB; subst hC
      have HF := Lib.hid (fun s t => show finL (duo (pick .f32 YB s) (pick .f32 YC t)) 2 = false by rw [finL_two, isFin_pick, isFin_pick]; exact ho.symm)
      clear ho n0
      go_enter Try.func40, Try.ntmps40
      go_wp2_with (first | (first | ((with_reducible refine wpL_fbin ?_); refine ⟨_, _, _, rfl, rfl, rfl, fun s n => ?_⟩)) | (go_at_call 65; refine (HL.out _ (by exact HX)).mono ?_; rintro e w1 ⟨rfl, q, hw1⟩; have B1 : Below w.heap.size w w1 := (by rw [hw1]; exact Below.drewN (Below.refl _ _) _); rw [show w.cell? ⟨xb, xo, none⟩ = w1.cell? ⟨xb, xo, none⟩ from (by rw [hw1]; rfl)] at r0; rw [show w.cell? ⟨xb, xo + 1, none⟩ = w1.cell? ⟨xb, xo + 1, none⟩ from (by rw [hw1]; rfl)] at r1; rw [show w.cell? ⟨xb, xo + 2, none⟩ = w1.cell? ⟨xb, xo + 2, none⟩ from (by rw [hw1]; rfl)] at r2; clear hw1 HX) | (go_at_call 50; refine (allFinite_any _ _ _ (duo _ _) _ (by exact rd_two' _ _ _ _ (by simp)) (by omega)).mono ?_; rw [HF.out]; rintro e w' ⟨rfl, q, rfl⟩))
      ((try simp only [Exit.inBlock, Exit.then]); refine bodyPost_ret (results_tmp4 rfl _ _ _) rfl ?_)
      exact ladNo (B1.trans (by refine Below.mono ?_ B1.size; (repeat (first | with_reducible exact Below.refl _ _ | with_reducible refine Below.drewN ?_ _ | with_reducible refine Below.setCell ?_ (by simp; try omega) _ | with_reducible refine Below.alloc ?_ (by simp; try omega) _))))
    · rw [if_pos rfl] at hA hB hC
      subst hA; subst hB; subst hC
      have HF := Lib.hid (fun s t => show finL (duo (pick .f32 B s) (pick .f32 C t)) 2 = true by rw [finL_two, isFin_pick, isFin_pick]; exact ho.symm)
      have HN := Lib.hid n0
      clear ho n0
      go_enter Try.func40, Try.ntmps40
      go_wp2_with (first | (first | ((with_reducible refine wpL_fbin ?_); refine ⟨_, _, _, rfl, rfl, rfl, fun s n => ?_⟩)) | (go_at_call 65; refine (HL.out _ (by exact HX)).mono ?_; rintro e w1 ⟨rfl, q, hw1⟩; have B1 : Below w.heap.size w w1 := (by rw [hw1]; exact Below.drewN (Below.refl _ _) _); rw [show w.cell? ⟨xb, xo, none⟩ = w1.cell? ⟨xb, xo, none⟩ from (by rw [hw1]; rfl)] at r0; rw [show w.cell? ⟨xb, xo + 1, none⟩ = w1.cell? ⟨xb, xo + 1, none⟩ from (by rw [hw1]; rfl)] at r1; rw [show w.cell? ⟨xb, xo + 2, none⟩ = w1.cell? ⟨xb, xo + 2, none⟩ from (by rw [hw1]; rfl)] at r2; clear hw1 HX) | (go_at_call 50; refine (allFinite_any _ _ _ (duo _ _) _ (by exact rd_two' _ _ _ _ (by simp)) (by omega)).mono ?_; rw [HF.out]; rintro e w' ⟨rfl, q, rfl⟩))
      ((try simp only [Exit.inBlock, Exit.then]); refine bodyPost_ret (results_tmp4 rfl _ _ _) rfl ?_)
      exact ladYes HN.out (B1.trans (by refine Below.mono ?_ B1.size; (repeat (first | with_reducible exact Below.refl _ _ | with_reducible refine Below.drewN ?_ _ | with_reducible refine Below.setCell ?_ (by simp; try omega) _ | with_reducible refine Below.alloc ?_ (by simp; try omega) _))))
end Go.Proofs.Ytaobjilnbbpmeaa
