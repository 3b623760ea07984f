
/- Whether rates are those of levels: as the model asks it, and as the program does. -/
import Derived.Test.YtogmcinaoemnpaaLva
import Derived.Test.YtogmcinaoemnpaaFinW
import Derived.Test.YtogmcinaoemnpaaIn
namespace Go.Proofs.Ytogmcinaoemnpaa
set_option linter.all false
open Go Go.ChangeShapes Go.WideShapes Go.ChangeAt Go.RowKit

set_option maxHeartbeats 800000 in
theorem l02Least_any (x : Nat) (w : World) : Calls Try.prog 91 #[.float .f32 x] w fun e w' => e = .returned (.bool (isG x)) ∧ ∃ m, w' = w.drewN m := by
  cases hf : isFin .f32 x
  · have H := Lib.hid (isG_no hf)
    go_enter Try.func91, Try.ntmps91
    go_wp2_with (go_at_call 117; refine (l01Finite_any _ _).mono ?_; rintro e w' ⟨rfl, q, rfl⟩)
    go_ret
    exact ⟨ret_bool H.out.symm, _, rfl⟩
  · have H := Lib.hid (show isG x = (FloatKind.f32.format.order x 0 == some .gt || FloatKind.f32.format.order x 0 == some .eq) by unfold isG; rw [hf]; rfl)
    go_enter Try.func91, Try.ntmps91
    go_wp2_with (go_at_call 117; refine (l01Finite_any _ _).mono ?_; rintro e w' ⟨rfl, q, rfl⟩)
    go_ret
    exact ⟨ret_bool H.out.symm, _, rfl⟩
def isZ (x : Nat) : Bool := FloatKind.f32.format.order x 0 == some .eq
/-- None goes from a level to itself. -/
def diag (A : Nat → Nat) (n : Nat) : Bool := (List.range n).all fun k => isZ (A (k * n + k))
theorem diag_no {A : Nat → Nat} {n k : Nat} (hk : k < n) (h : isZ (A (k * n + k)) = false) : diag A n = false := by
  unfold diag
  rw [List.all_eq_false]
  exact ⟨k, List.mem_range.2 hk, by simp [h]⟩
theorem diag_yes {A : Nat → Nat} {n : Nat} (h : ∀ k, k < n → isZ (A (k * n + k)) = true) : diag A n = true := by
  unfold diag
  rw [List.all_eq_true]
  exact fun k hk => h k (List.mem_range.1 hk)
theorem diag_idx {n i : Nat} (h : i % (n + 1) = 0) (hi : i < n * n) : i / (n + 1) < n ∧ i = i / (n + 1) * n + i / (n + 1) := by
  have e := Nat.div_add_mod i (n + 1)
  rw [h, Nat.add_zero] at e
  have e2 : i = i / (n + 1) * n + i / (n + 1) := by
    rw [Nat.mul_comm, Nat.mul_add, Nat.mul_one] at e
    exact e.symm
  refine ⟨?_, e2⟩
  by_cases c : i / (n + 1) < n
  · exact c
  · have h1 : n * n ≤ i / (n + 1) * n := Nat.mul_le_mul_right n (by omega)
    omega
theorem diag_mod (n k : Nat) : (k * n + k) % (n + 1) = 0 := by
  rw [show k * n + k = (n + 1) * k by rw [Nat.add_mul, Nat.one_mul, Nat.mul_comm]]
  exact Nat.mul_mod_right _ _
def lvOk (a : Int) (L : Nat) (A : Nat → Nat) : Bool := inB a 1 6 && (decide ((L : Int) = a * a) && (gL A L && diag A a.toNat))
theorem lvOk_at {a : Int} {L : Nat} {A : Nat → Nat} (h : lvOk a L A = true) : ∃ N : Nat, a = (N : Int) ∧ 1 ≤ N ∧ N ≤ 6 ∧ L = N * N ∧ gL A L = true ∧ diag A N = true := by
  unfold lvOk at h
  simp only [Bool.and_eq_true, decide_eq_true_eq] at h
  obtain ⟨h1, h2, h3, h4⟩ := h
  have hr := inB_rng h1
  obtain ⟨N, rfl⟩ : ∃ N : Nat, a = (N : Int) := ⟨a.toNat, by omega⟩
  rw [Int.toNat_natCast] at h4
  refine ⟨N, rfl, by omega, by omega, ?_, h3, h4⟩
  rw [← Int.natCast_mul] at h2
  omega
theorem gL_at {X : Nat → Nat} {n : Nat} (h : ∀ k, k < n → isG (X k) = true) : gL X n = true := by
  unfold gL
  rw [List.all_eq_true]
  exact fun k hk => h k (List.mem_range.1 hk)
theorem gL_bad {X : Nat → Nat} {n k : Nat} (hk : k < n) (h : isG (X k) = false) : gL X n = false := by
  unfold gL
  rw [List.all_eq_false]
  exact ⟨k, List.mem_range.2 hk, by simp [h]⟩
set_option maxRecDepth 100000 in
set_option maxHeartbeats 3200000 in
theorem specRates_any (a : Int) (ra : Option Addr) (L rc : Nat) (A : Nat → Nat) (w : World) (hA : Rd w ra L A) (hLm : L ≤ 1048576) (R : Bool) (hR : Hid (R = lvOk a L A)) :
    Calls Try.prog 45 #[.int .i64 a, .slice ra L rc] w fun e w' => e = .returned (.bool R) ∧ ∃ m, w' = w.drewN m := by
  cases h1 : inB a 1 6
  · have HN := Lib.hid (show false = R by rw [hR.out, lvOk, h1]; rfl)
    go_enter Try.func45, Try.ntmps45
    go_wp2_with (go_at_call 66; refine (l00In_any _ _ _ _).mono ?_; rw [h1]; rintro e w' ⟨rfl, rfl⟩)
    go_ret
    exact ⟨ret_bool HN.out, 0, rfl⟩
  have hr := inB_rng h1
  obtain ⟨N, rfl⟩ : ∃ N : Nat, a = (N : Int) := ⟨a.toNat, by omega⟩
  have hN1 : 1 ≤ N := by omega
  have hN6 : N ≤ 6 := by omega
  have hmw := mul_wrap hN6 hN6
  obtain ⟨M, hM⟩ : ∃ M, M = N * N := ⟨_, rfl⟩
  have hM36 : M ≤ 36 := by rw [hM]; exact idx_small hN6 hN6
  rw [← hM] at hmw
  have hMM : (N : Int) * (N : Int) = (M : Int) := by rw [← Int.natCast_mul, hM]
  by_cases h2 : L = M
  case neg =>
    have HN := Lib.hid (show false = R by rw [hR.out, lvOk, h1, hMM, decide_eq_false (by omega)]; rfl)
    have hne : ((L : Int) != (M : Int)) = true := by simpa using (by omega : ¬ (L : Int) = (M : Int))
    clear hM
    go_enter Try.func45, Try.ntmps45
    go_wp2_with (go_at_call 66; refine (l00In_any _ _ _ _).mono ?_; rw [h1]; rintro e w' ⟨rfl, rfl⟩)
    go_ret
    exact ⟨ret_bool HN.out, 0, rfl⟩
  subst h2
  have hR2 : R = (gL A L && diag A N) := by rw [hR.out, lvOk, h1, hMM, decide_eq_true rfl, Int.toNat_natCast]; rfl
  have HR := Lib.hid hR2
  have HM := Lib.hid hM
  have hne : ((L : Int) != (L : Int)) = false := by simp
  obtain ⟨xb, xo, hxa, hcx⟩ := hA
  have HX := Lib.hid hcx
  clear hM hR2 hcx hMM hR
  go_enter Try.func45, Try.ntmps45
  go_wp2_with (go_at_call 66; refine (l00In_any _ _ _ _).mono ?_; rw [h1]; rintro e w' ⟨rfl, rfl⟩)
  clear h1 hr
  go_loopw [5] (fun i wr => ∃ c m : Nat, c ≤ L ∧ i = .int .i64 (c : Int) ∧ wr = w.drewN m ∧ Hid (∀ j, j < c → isG (A j) = true ∧ (j % (N + 1) = 0 → isZ (A j) = true))) (fun i _ => L - (intOf i).toNat)
  case atStart => exact ⟨0, 0, Nat.zero_le _, rfl, rfl, Lib.hid fun j hj => absurd hj (Nat.not_lt_zero _)⟩
  case round =>
    obtain ⟨c, m, hc, rfl, rfl, HF⟩ := hrel
    by_cases hlt : c < L
    · have e := hxa (by omega)
      subst e
      have r1 := HX.out c hlt
      have hcL : (c : Int) < (L : Int) := by omega
      cases hg : isG (A c)
      · have HN := Lib.hid (show false = R by rw [HR.out, gL_bad hlt hg]; rfl)
        go_wp2_with (go_at_call 91; refine (l02Least_any _ _).mono ?_; rw [hg]; rintro e w' ⟨rfl, q, rfl⟩)
        go_ret
        exact ⟨ret_bool HN.out, _, rfl⟩
      · have hrem : Int.tmod (c : Int) ((N : Int) + 1) = ((c % (N + 1) : Nat) : Int) := rfl
        obtain ⟨r, hrr⟩ : ∃ r, r = c % (N + 1) := ⟨_, rfl⟩
        rw [← hrr] at hrem
        have hn0 : ¬ ((N : Int) + 1) = 0 := by omega
        by_cases hz : r = 0
        · subst hz
          cases hzz : isZ (A c)
          · have hz2 : (FloatKind.f32.format.order (A c) 0 != some .eq) = true := by unfold isZ at hzz; simp only [bne, hzz]; rfl
            have HN := Lib.hid (show false = R by
              obtain ⟨k1, k2⟩ := diag_idx (n := N) hrr.symm (by rw [← HM.out]; exact hlt)
              rw [HR.out, diag_no k1 (by rw [← k2]; exact hzz)]; simp)
            clear hrr
            go_wp2_with (go_at_call 91; refine (l02Least_any _ _).mono ?_; rw [hg]; rintro e w' ⟨rfl, q, rfl⟩)
            go_ret
            exact ⟨ret_bool HN.out, _, rfl⟩
          · have hz2 : (FloatKind.f32.format.order (A c) 0 != some .eq) = false := by unfold isZ at hzz; simp only [bne, hzz]; rfl
            have HF' := Lib.hid (show ∀ j, j < c + 1 → isG (A j) = true ∧ (j % (N + 1) = 0 → isZ (A j) = true) from fun j hj => by
              by_cases hj' : j < c
              · exact HF.out j hj'
              · rw [show j = c by omega]; exact ⟨hg, fun _ => hzz⟩)
            clear hrr
            go_wp2_with (go_at_call 91; refine (l02Least_any _ _).mono ?_; rw [hg]; rintro e w' ⟨rfl, q, rfl⟩)
            go_roundw
            case rel => exact ⟨c + 1, _, by omega, by go_num, rfl, HF'⟩
            case measure => simp [intOf]; omega
        · have hr0 : ((r : Int) == 0) = false := by simpa using (by omega : ¬ (r : Int) = 0)
          have HF' := Lib.hid (show ∀ j, j < c + 1 → isG (A j) = true ∧ (j % (N + 1) = 0 → isZ (A j) = true) from fun j hj => by
            by_cases hj' : j < c
            · exact HF.out j hj'
            · rw [show j = c by omega]; exact ⟨hg, fun h => absurd (hrr.trans h) hz⟩)
          clear hrr
          go_wp2_with (go_at_call 91; refine (l02Least_any _ _).mono ?_; rw [hg]; rintro e w' ⟨rfl, q, rfl⟩)
          go_roundw
          case rel => exact ⟨c + 1, _, by omega, by go_num, rfl, HF'⟩
          case measure => simp [intOf]; omega
    · have hcn : c = L := by omega
      subst hcn
      have HN := Lib.hid (show true = R by
        rw [HR.out, gL_at fun k hk => (HF.out k hk).1, diag_yes fun k hk => (HF.out (k * N + k) (by rw [HM.out]; exact idx_lt hk hk)).2 (diag_mod N k)]
        rfl)
      go_wp2
      go_ret
      exact ⟨ret_bool HN.out, m, rfl⟩
end Go.Proofs.Ytogmcinaoemnpaa
