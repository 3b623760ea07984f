/- The base of a list: as the model takes it. -/
import Derived.Test.YtehlflldnihamaaBaz
import Derived.Test.YtehlflldnihamaaClo
import Derived.Test.YtehlflldnihamaaHalf
import Derived.Test.YtehlflldnihamaaGiv
import Derived.Test.YtehlflldnihamaaIn
import Derived.Test.YtehlflldnihamaaLiC
import Derived.Deep.QuietTactic
import Derived.BigQuiet
namespace Go.Proofs.Ytehlflldnihamaa
open Go Go.ChangeShapes Go.WideShapes Go.ChangeAt Go.RowKit

theorem basR_succ (mid : Nat → Nat → Nat) (X : Nat → Nat) (n t i : Nat) : basR mid X n (t + 1) i = if (1 ≤ i ∧ i + 1 < n) ∧ lo (mid (basR mid X n t (i - 1)) (basR mid X n t (i + 1))) (basR mid X n t i) = true then mid (basR mid X n t (i - 1)) (basR mid X n t (i + 1)) else basR mid X n t i := rfl
/-- The numbers of a round, of which those before c are done. -/
def basZ (B B' : Nat → Nat) (c i : Nat) : Nat := if i < c then B' i else B i
theorem basZ_end (mid : Nat → Nat → Nat) (X : Nat → Nat) (n t c : Nat) (h : n ≤ c + 1) : rowOf (basZ (basR mid X n t) (basR mid X n (t + 1)) c) n = rowOf (basR mid X n (t + 1)) n := rowOf_congr fun j hj => by
  unfold basZ
  by_cases hc : j < c
  · rw [if_pos hc]
  · rw [if_neg hc, basR_succ, if_neg (fun h => by omega)]
theorem basZ_start (mid : Nat → Nat → Nat) (X : Nat → Nat) (n t : Nat) : rowOf (basR mid X n t) n = rowOf (basZ (basR mid X n t) (basR mid X n (t + 1)) 1) n := rowOf_congr fun j hj => by
  unfold basZ
  by_cases hc : j < 1
  · rw [if_pos hc, basR_succ, if_neg (fun h => by omega)]
  · rw [if_neg hc]
theorem basZ_step {B B' : Nat → Nat} {c n : Nat} {v : Nat} (h : B' c = v) : rowOf (fun i => if i = c then v else basZ B B' c i) n = rowOf (basZ B B' (c + 1)) n := rowOf_congr fun j _ => by
  unfold basZ
  by_cases e : j = c
  · subst e; rw [if_pos rfl, if_pos (by omega), h]
  · rw [if_neg e]
    by_cases hc : j < c
    · rw [if_pos hc, if_pos (by omega)]
    · rw [if_neg hc, if_neg (by omega)]
theorem basZ_same {B B' : Nat → Nat} {c n : Nat} (h : B' c = B c) : rowOf (basZ B B' c) n = rowOf (basZ B B' (c + 1)) n := rowOf_congr fun j _ => by
  unfold basZ
  by_cases e : j = c
  · subst e; rw [if_neg (by omega), if_pos (by omega), h]
  · by_cases hc : j < c
    · rw [if_pos hc, if_pos (by omega)]
    · rw [if_neg hc, if_neg (by omega)]
set_option maxRecDepth 100000 in
set_option maxHeartbeats 6400000 in
theorem l07Base_any (xa : Option Addr) (n cap : Nat) (X : Nat → Nat) (T : Nat) (hT : T ≤ 64) (w : World) (hX : Rd w xa n X) (h1 : 1 ≤ n) (hn : n ≤ 1048576) (hP : ∀ t i, i < n → PB (basR midS X n t i)) :
    Calls Try.prog 92 #[.slice xa n cap, .int .i64 (T : Int)] w (CloneRet (basR midS X n T) n w) := by
  obtain ⟨i0, hi, hz0, hz1, hz2⟩ := info_parts infoF
  go_enter Try.func92, Try.ntmps92
  go_wp2_with (at_builtin; refine wpL_copy0 hi hz0 hz1 hz2 rfl rfl rfl rfl (by exact hX.alloc _) h1 hn ?_; intro v' w1 hown hb)
  have hown' : w1.ownsRow w.heap.size 31 1 v' n (rowOf X n) := own_mono0 hown (by simp)
  have hb' : Below w.heap.size w w1 := ((Below.refl _ w).alloc (Nat.le_refl _) (.cells #[] 31)).trans (hb.mono (by simp))
  obtain ⟨g, cp, rfl⟩ : ∃ g cap, v' = .slice (some ⟨g, 0, none⟩) n cap := by
    rcases hown'.2 with ⟨_, h2⟩ | ⟨g, cp, cur, h1, _⟩
    · omega
    · exact ⟨g, cp, h1⟩
  clear hown hb
  go_loopw [1, 5] (fun i v wr => ∃ t g cp : Nat, t ≤ T ∧ i = .int .i64 ((T : Int) - (t : Int)) ∧ v = .slice (some ⟨g, 0, none⟩) n cp ∧ wr.ownsRow w.heap.size 31 1 (.slice (some ⟨g, 0, none⟩) n cp) n (rowOf (basR midS X n t) n) ∧ Below w.heap.size w wr) (fun i _ _ => (intOf i).toNat)
  case atStart => exact ⟨0, g, cp, Nat.zero_le _, by simp, rfl, hown', hb'⟩
  case round =>
    obtain ⟨t, g, cp, ht, rfl, rfl, hownt, hBt⟩ := hrel
    clear hown' hb'
    by_cases hlt : t < T
    · have hgt : decide ((T : Int) - (t : Int) > 0) = true := decide_eq_true (by omega)
      have hgt' : decide (0 < (T : Int) - (t : Int)) = true := decide_eq_true (by omega)
      go_wp2_with (at_builtin; refine wpL_copy0 hi hz0 hz1 hz2 rfl rfl rfl rfl (by exact (rd_own hownt).alloc _) h1 hn ?_; intro v' w2 hown2 hb2)
      have hlow := own_lt hownt
      have hownN : w2.ownsRow wr.heap.size 31 1 v' n (rowOf (basR midS X n t) n) := own_mono0 hown2 (by simp)
      have hbN : Below wr.heap.size wr w2 := ((Below.refl _ wr).alloc (Nat.le_refl _) (.cells #[] 31)).trans (hb2.mono (by simp))
      obtain ⟨g2, cp2, rfl⟩ : ∃ g cap, v' = .slice (some ⟨g, 0, none⟩) n cap := by
        rcases hownN.2 with ⟨_, h2⟩ | ⟨g, cp, cur, h1, _⟩
        · omega
        · exact ⟨g, cp, h1⟩
      have hge := own_ge hownN
      have hne : g2 ≠ g := by omega
      have hge2 : w.heap.size ≤ g2 := by have := hBt.size; omega
      have hownB := own_below hownt hbN
      have hB2 := hBt.trans (hbN.mono hBt.size)
      rw [basZ_start] at hownN
      have hownM := own_mono0 hownN (B' := w.heap.size) hBt.size
      clear hown2 hb2 hownN hbN hownt hBt hlow hge
      obtain ⟨B, hBB⟩ : ∃ B, B = basR midS X n t := ⟨_, rfl⟩
      obtain ⟨B', hBB'⟩ : ∃ B', B' = basR midS X n (t + 1) := ⟨_, rfl⟩
      have HS := Lib.hid (show ∀ i, B' i = if (1 ≤ i ∧ i + 1 < n) ∧ lo (midS (B (i - 1)) (B (i + 1))) (B i) = true then midS (B (i - 1)) (B (i + 1)) else B i from fun i => by rw [hBB, hBB', basR_succ])
      have HP := Lib.hid (show ∀ i, i < n → PB (B i) from fun i hi => by rw [hBB]; exact hP t i hi)
      have HE := Lib.hid (show ∀ c, n ≤ c + 1 → rowOf (basZ B B' c) n = rowOf (basR midS X n (t + 1)) n from fun c hc => by rw [hBB, hBB']; exact basZ_end midS X n t c hc)
      rw [← hBB] at hownB
      rw [← hBB, ← hBB'] at hownM
      clear hBB hBB'
      go_loopw [7] (fun i wq => ∃ c : Nat, (c = 0 ∨ c + 1 < n) ∧ i = .int .i64 ((c : Int) + 1) ∧ wq.ownsRow w.heap.size 31 1 (.slice (some ⟨g2, 0, none⟩) n cp2) n (rowOf (basZ B B' (c + 1)) n) ∧ wq.ownsRow w.heap.size 31 1 (.slice (some ⟨g, 0, none⟩) n cp) n (rowOf B n) ∧ Below w.heap.size w wq) (fun i _ => n - (intOf i).toNat)
      case atStart => exact ⟨0, .inl rfl, rfl, hownM, hownB, hB2⟩
      case round =>
        obtain ⟨c, hc, rfl, hoZ, hoB, hBq⟩ := hrel
        clear hownM hownB hB2
        by_cases hcn : c + 2 < n
        · have r0 := own_cell hoB (show c < n by omega)
          have r1 := own_cell hoB (show c + 1 < n by omega)
          have r2 := own_cell hoB (show c + 2 < n by omega)
          have p0 := HP.out c (by omega)
          have p2 := HP.out (c + 2) (by omega)
          have hS := HS.out (c + 1)
          rw [show c + 1 - 1 = c by omega, show c + 1 + 1 = c + 2 by omega] at hS
          obtain ⟨M, hM⟩ : ∃ M, M = midS (B c) (B (c + 2)) := ⟨_, rfl⟩
          rw [← hM] at hS
          obtain ⟨A, hA⟩ : ∃ A, fbin .add .f32 (B c) (B (c + 2)) = A := ⟨_, rfl⟩
          have nA : isNaN .f32 A = false := by rw [← hA]; exact num_addP p0 p2
          have hMA : fbin .mul .f32 1056964608 A = M := by rw [hM, midS, hA, half_eq]
          have nM : isNaN .f32 M = false := by rw [← hMA]; exact nan_mul_fin ⟨_, _, _, read_halfW, by decide⟩ nA
          have q1 := fun t => run_numop (op := .add) rfl t _ _ _ hA nA
          have q2 := fun t => run_numop (op := .mul) rfl t _ _ _ hMA nM
          have u1 : (0 : Int) ≤ (c : Int) + 1 := by omega
          have u2 : (0 : Int) ≤ (c : Int) + 2 := by omega
          have v0 : (c : Int) < (n : Int) := by omega
          have v1 : (c : Int) + 1 < (n : Int) := by omega
          have v2 : (c : Int) + 2 < (n : Int) := by omega
          have v3 : (c : Int) + 1 + 1 = (c : Int) + 2 := by omega
          have d2 : decide ((c : Int) + 2 < (n : Int)) = true := decide_eq_true v2
          have st := fun q u => own_store hoZ (show c + 1 < n by omega) q u
          have HZ := Lib.hid hoZ
          have HB := Lib.hid hoB
          have HBq := Lib.hid hBq
          clear hM hA hMA nA nM p0 p2 hoZ hoB hBq hc
          cases hz : lo M (B (c + 1))
          · have hz' : (FloatKind.f32.format.order M (B (c + 1)) == some .lt) = false := hz
            have HN := Lib.hid (show rowOf (basZ B B' (c + 1)) n = rowOf (basZ B B' (c + 1 + 1)) n from basZ_same (by rw [hS, hz, if_neg (by simp)]))
            clear hz hS
            go_wp2_with fail
            go_quiet (fail)
            go_wp2
            go_roundw
            case rel => exact ⟨c + 1, .inr (by omega), by go_num, by rw [← HN.out]; exact own_drew HZ.out _, own_drew HB.out _, Below.drewN HBq.out _⟩
            case measure => simp [intOf]; omega
          · have hz' : (FloatKind.f32.format.order M (B (c + 1)) == some .lt) = true := hz
            have HN := Lib.hid (basZ_step (B := B) (B' := B') (c := c + 1) (n := n) (v := M) (by rw [hS, hz, if_pos ⟨⟨by omega, by omega⟩, rfl⟩]))
            clear hz hS
            go_wp2_with fail
            go_quiet (fail)
            go_wp2
            go_roundw
            case rel => exact ⟨c + 1, .inr (by omega), by go_num, by rw [← HN.out]; exact own_stored (own_drew HZ.out _) (c + 1) _, own_other (own_drew HB.out _) hne.symm ((Only.refl g2 _).setCell (c + 1) _), Below.setCell (Below.drewN HBq.out _) hge2 _⟩
            case measure => simp [intOf]; omega
        · have v3 : (c : Int) + 1 + 1 = (c : Int) + 2 := by omega
          have d2 : decide ((c : Int) + 2 < (n : Int)) = false := decide_eq_false (by omega)
          have HN := Lib.hid (HE.out (c + 1) (by omega))
          have HB := Lib.hid hBq
          have HZ := Lib.hid hoZ
          clear hoZ hoB hBq
          go_wp2
          go_roundw
          case rel => exact ⟨t + 1, g2, cp2, by omega, by go_num, rfl, by rw [← HN.out]; exact HZ.out, HB.out⟩
          case measure => simp [intOf]; omega
    · obtain rfl : t = T := by omega
      have hz : decide ((t : Int) - (t : Int) > 0) = false := decide_eq_false (by omega)
      have hz' : decide (0 < (t : Int) - (t : Int)) = false := decide_eq_false (by omega)
      go_wp2
      go_ret
      exact ⟨g, cp, rfl, hownt, hBt⟩
end Go.Proofs.Ytehlflldnihamaa
