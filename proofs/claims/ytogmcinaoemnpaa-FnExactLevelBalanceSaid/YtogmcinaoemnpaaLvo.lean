
/- What goes away from a level, as the model tells it. -/
import Derived.Test.YtogmcinaoemnpaaLvd
import Derived.Test.YtogmcinaoemnpaaPushS
import Derived.Test.YtogmcinaoemnpaaRo
import Derived.BigQuiet
namespace Go.Proofs.Ytogmcinaoemnpaa
set_option linter.all false
open Go Go.ChangeShapes Go.WideShapes Go.ChangeAt Go.RowKit

theorem sumF_num {Y : Nat → Nat} : ∀ k, (∀ i, i < k → isFin .f32 (Y i) = true) → isNaN .f32 (sumW Y k) = false := by
  intro k
  induction k with
  | zero => intro _; show isNaN .f32 0 = false; decide +kernel
  | succ k ih => intro h; rw [sumW]; exact nan_add (ih fun i hi => h i (by omega)) (h k (by omega))
theorem gL_fin_at {A : Nat → Nat} {L : Nat} (h : gL A L = true) {i : Nat} (hi : i < L) : isFin .f32 (A i) = true := by
  unfold gL at h
  rw [List.all_eq_true] at h
  have := h i (List.mem_range.2 hi)
  cases hf : isFin .f32 (A i)
  · rw [isG_no hf] at this; cases this
  · rfl
set_option maxRecDepth 100000 in
set_option maxHeartbeats 1600000 in
theorem specOut_any (N : Nat) (ra : Option Addr) (L rc : Nat) (A : Nat → Nat) (k : Nat) (w : World) (hA : Rd w ra L A) (hL : L = N * N) (hN : N ≤ 6) (h1 : 1 ≤ N) (hk : k < N) (hg : gL A L = true) :
    Calls Try.prog 46 #[.int .i64 (N : Int), .slice ra L rc, .int .i64 (k : Int)] w fun e w' => e = .returned (.float .f32 (lvO N A k)) ∧ w' = w := by
  obtain ⟨xb, xo, hxa, hcx⟩ := hA
  have HX := Lib.hid hcx
  have HL := Lib.hid hL
  have HG := Lib.hid hg
  have hmw := mul_wrap hN (show k ≤ 6 by omega)
  clear hcx hL hg
  go_enter Try.func46, Try.ntmps46
  go_wp2
  go_loop [7, 8] (fun q i => ∃ c : Nat, c ≤ N ∧ i = .int .i64 (c : Int) ∧ q = .float .f32 (sumW (fun i => A (k * N + i)) c)) (fun _ i => N - (intOf i).toNat)
  case atStart => exact ⟨0, Nat.zero_le _, rfl, rfl⟩
  case round =>
    obtain ⟨c, hc, rfl, rfl⟩ := hrel
    by_cases hlt : c < N
    · have hidx : k * N + c < L := by rw [HL.out]; exact idx_lt hk hlt
      have e := hxa (by omega)
      subst e
      have r1 := HX.out (k * N + c) hidx
      have haw : ((k * N : Nat) : Int) + (c : Int) = ((k * N + c : Nat) : Int) := by omega
      have hL36 := idx_small hN hN
      rw [← HL.out] at hL36
      have hcN : (c : Int) < (N : Int) := by omega
      obtain ⟨D, hD⟩ : ∃ D, fbin .add .f32 (sumW (fun i => A (k * N + i)) c) (A (k * N + c)) = D := ⟨_, rfl⟩
      have hnD : isNaN .f32 D = false := by
        rw [← hD]
        exact nan_add (sumF_num c fun i hi => gL_fin_at HG.out (by rw [HL.out]; exact idx_lt hk (by omega))) (gL_fin_at HG.out hidx)
      have HD := Lib.hid (show sumW (fun i => A (k * N + i)) (c + 1) = D by rw [← hD]; rfl)
      have HPD := Lib.hid (fun s => pick_num hnD s)
      have hpk : ∀ s, pick .f32 D s = D := HPD.out
      have hop := fun t w => run_numop (op := .add) rfl t (sumW (fun i => A (k * N + i)) c) (A (k * N + c)) D hD hnD w
      obtain ⟨S, hS⟩ : ∃ S, S = sumW (fun i => A (k * N + i)) c := ⟨_, rfl⟩
      rw [← hS] at hD hop ⊢
      obtain ⟨p, hp⟩ : ∃ p, p = k * N + c := ⟨_, rfl⟩
      obtain ⟨m, hmn⟩ : ∃ m, m = k * N := ⟨_, rfl⟩
      rw [← hp] at r1 hidx haw hD hop
      rw [← hmn] at hmw haw
      have hpw : IntKind.i64.wrap ((m : Int) + (c : Int)) = (p : Int) := by rw [haw, IntKind.wrap_i64]; omega
      have hp36 : (p : Int) < (L : Int) := by omega
      clear hS hp hmn
      go_wp2
      go_round
      case rel => exact ⟨c + 1, by omega, by go_num, by rw [HD.out]⟩
      case measure => simp [intOf]; omega
    · have hcn : N = c := by omega
      subst hcn
      go_wp2
      go_ret
      exact ⟨rfl, rfl⟩
end Go.Proofs.Ytogmcinaoemnpaa
