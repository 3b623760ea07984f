/- The levels of a top: as the model tells them, and as the program does. -/
import Derived.Test.YtffhnkhjfggooaaQ
import Derived.Test.YtffhnkhjfggooaaArr
namespace Go.Proofs.Ytffhnkhjfggooaa
open Go Go.ChangeShapes Go.WideShapes Go.ChangeAt Go.RowKit

def topR (a b j : Nat) (k : Nat) : Nat := fbin .add .f32 (fbin .mul .f32 b (qF j)) (fbin .mul .f32 (fbin .mul .f32 (fbin .sub .f32 a b) (floatOfInt .f32 (k : Int))) (floatOfInt .f32 (k : Int)))
set_option maxRecDepth 100000 in
set_option maxHeartbeats 3200000 in
theorem specTop_yes (a b : Nat) (J c : Nat) (w : World) (hb : isG a = true) (hd : isG b = true) (hc : c = J + 1) (h2 : J ≤ 40) :
    Calls Try.prog 30 #[.float .f32 a, .float .f32 b, .int .i64 (J : Int)] w (LevRet (topR a b J) c w) := by
  obtain ⟨i0, hi, hz0, hz1, hz2⟩ := info_parts infoF
  have d1 : inB (J : Int) 0 40 = true := inB_yes (by omega) (by omega)
  have hJ64 : J ≤ 64 := by omega
  have hc1 : c ≤ J + 1 := by omega
  have hc2 : J + 1 ≤ c := by omega
  clear hc
  have hp := fun op => fbin_pick_l op .f32
  have hq := fun op => fbin_pick_r op .f32
  go_enter Try.func30, Try.ntmps30
  go_wp2_with (first | (go_at_call 68; refine (l03Least_any _ _).mono ?_; rintro e w' ⟨rfl, q, rfl⟩) | (go_at_call 51; refine (l00In_any _ _ _ _).mono ?_; rintro e w' ⟨rfl, rfl⟩))
  go_loopw [8, 9] (fun v i wr => ∃ (k : Nat) (X : Nat → Nat), k ≤ c ∧ i = .int .i64 (k : Int) ∧ wr.ownsRow w.heap.size 29 1 v k (rowOf X k) ∧ Like X (topR a b J) k ∧ Below w.heap.size w wr) (fun _ i _ => c - (intOf i).toNat)
  case atStart => exact ⟨0, fun _ => 0, Nat.zero_le _, rfl, own_empty _ _, fun _ h => absurd h (Nat.not_lt_zero _), Below.alloc (Below.drewN (Below.refl _ _) _) (Nat.le_refl _) _⟩
  case round =>
    obtain ⟨k, X, hk, rfl, hownk, hL, hBk⟩ := hrel
    have hsz := hBk.size
    by_cases hlt : k < c
    · skip
      go_wp2_with (first | ((with_reducible refine wpL_fbin ?_); refine ⟨_, _, _, rfl, rfl, rfl, fun s n => ?_⟩) | (go_at_call 70; refine (l03Q_any J hJ64 _).mono ?_; rintro e w' ⟨rfl, rfl⟩) | (at_builtin; refine wpL_push hi hz0 hz1 hz2 rfl rfl rfl rfl (by exact hownk) (by omega) (by exact hsz) ?_; intro v' w1 hown' hB'))
      go_roundw
      case rel => exact ⟨k + 1, _, by omega, by go_num, hown', like_push hL rfl, Below.trans (Below.drewN hBk _) hB'⟩
      case measure => simp [intOf]; omega
    · have hkc : k = c := by omega
      subst hkc
      cases hf : finL X k
      · go_wp2_with (go_at_call 58; refine (l03List_any _ w.heap.size k X _ hownk (by omega)).mono ?_; rintro e w' ⟨rfl, q, rfl⟩)
        go_ret2
        exact levRet_no hf hL hBk
      · go_wp2_with (go_at_call 58; refine (l03List_any _ w.heap.size k X _ hownk (by omega)).mono ?_; rintro e w' ⟨rfl, q, rfl⟩)
        go_ret2
        exact levRet_yes hf hL hownk hBk
theorem specTop_no (a b : Nat) (c : Int) (w : World) (R : Nat → Nat) (h : isG a = false ∨ isG b = false ∨ c < 0 ∨ 40 < c) :
    Calls Try.prog 30 #[.float .f32 a, .float .f32 b, .int .i64 c] w (OutRet R 0 false w) := by
  cases hb : isG a
  · clear h
    go_enter Try.func30, Try.ntmps30
    go_wp2_with (first | (go_at_call 68; refine (l03Least_any _ _).mono ?_; rintro e w' ⟨rfl, q, rfl⟩))
    go_ret2
    exact OutRet.no (Below.drewN (Below.refl _ _) _)
  · cases hd : isG b
    · clear h
      go_enter Try.func30, Try.ntmps30
      go_wp2_with (first | (go_at_call 68; refine (l03Least_any _ _).mono ?_; rintro e w' ⟨rfl, q, rfl⟩))
      go_ret2
      exact OutRet.no (Below.drewN (Below.refl _ _) _)
    · have d1 : inB c 0 40 = false := by
        rcases h with h | h | h | h
        · rw [hb] at h; cases h
        · rw [hd] at h; cases h
        · exact inB_lo h
        · exact inB_hi h
      clear h
      go_enter Try.func30, Try.ntmps30
      go_wp2_with (first | (go_at_call 68; refine (l03Least_any _ _).mono ?_; rintro e w' ⟨rfl, q, rfl⟩) | (go_at_call 51; refine (l00In_any _ _ _ _).mono ?_; rintro e w' ⟨rfl, rfl⟩))
      go_ret2
      exact OutRet.no (Below.drewN (Below.refl _ _) _)
set_option maxRecDepth 100000 in
set_option maxHeartbeats 3200000 in
theorem implTop_yes (a b : Nat) (J : Nat) (w : World) (hb : isG a = true) (hd : isG b = true) (h2 : J ≤ 40) :
    Calls Try.prog 31 #[.float .f32 a, .float .f32 b, .int .i64 (J : Int)] w (LevRet (topR a b J) (J + 1) w) := by
  obtain ⟨i0, hi, hz0, hz1, hz2⟩ := info_parts infoF
  have hJ64 : J ≤ 64 := by omega
  have dl : decide ((J : Int) < 0) = false := decide_eq_false (by omega)
  have dg : decide (40 < (J : Int)) = false := decide_eq_false (by omega)
  have hp := fun op => fbin_pick_l op .f32
  have hq := fun op => fbin_pick_r op .f32
  have hm : J + 1 ≤ maxLen := by unfold maxLen; omega
  have hbz : i0.bytes * (J + 1) ≤ 281474976710656 := by rw [hz2]; omega
  have hg2 : gL (two a b) 2 = true := by rw [gL_two, hb, hd]; rfl
  have hrd := rd_two w a b 29
  have hBa : Below w.heap.size w (w.alloc (.cells #[.float .f32 a, .float .f32 b] 29)) := (Below.refl _ w).alloc (Nat.le_refl _) _
  go_enter Try.func31, Try.ntmps31
  go_wp2_with (first | (go_at_call 71; refine (areAtLeastZero_any _ _ _ (two a b) _ (by exact hrd) (by omega)).mono ?_; rintro e w' ⟨rfl, q, rfl⟩; have hBm := Below.drewN hBa q; have hsm := hBm.size; clear hrd hBa) | (at_make; refine wpList_make_full _ rfl _ _ 30 rfl w.heap.size 29 i0 (.float .f32 0) 1 Try.underlying30 hi hz0 hz1 _ _ _ _ (J + 1) rfl rfl rfl rfl hbz hm (by exact hsm) ?_))
  intro w1 hown hgr
  rw [madeF] at hown
  have hB : Below w.heap.size w w1 := hBm.grown hgr hsm (fun _ h => by cases h)
  clear hgr hbz hm hi hz0 hz1 hz2 hBm hsm
  go_wp2
  go_loopw [9, 29] (fun _ i wr => ∃ (k : Nat) (X : Nat → Nat), k ≤ J + 1 ∧ i = .int .i64 k ∧ wr.ownsRow w.heap.size 29 1 (.slice (some ⟨w.heap.size + 1, 0, none⟩) (J + 1) (J + 1)) (J + 1) (rowOf X (J + 1)) ∧ Like X (topR a b J) k ∧ Below w.heap.size w wr) (fun _ i _ => (J + 1) - (intOf i).toNat)
  case atStart => exact ⟨0, fun _ => 0, Nat.zero_le _, rfl, hown, fun _ h => absurd h (Nat.not_lt_zero _), hB⟩
  case round =>
    obtain ⟨k, X, hk, rfl, hownk, hL, hBk⟩ := hrel
    clear hown hB
    by_cases hlt : k < J + 1
    · skip
      have st := fun q u => own_store hownk hlt q u
      have HO := Lib.hid hownk
      clear hownk
      go_wp2_with (first | ((with_reducible refine wpL_fbin ?_); refine ⟨_, _, _, rfl, rfl, rfl, fun s n => ?_⟩) | (go_at_call 73; refine (crossOf_any J hJ64 _).mono ?_; rintro e w' ⟨rfl, rfl⟩))
      go_roundw
      case rel => exact ⟨k + 1, _, by omega, by go_num, own_stored (own_drew HO.out _) k _, like_push hL rfl, Below.setCell (Below.drewN hBk _) (Nat.le_succ _) _⟩
      case measure => simp [intOf]; omega
    · have hkc : k = J + 1 := by omega
      subst hkc
      cases hf : finL X (J + 1)
      · go_wp2_with (go_at_call 61; refine (onlyFinite_any _ w.heap.size (J + 1) X _ hownk (by omega)).mono ?_; rintro e w' ⟨rfl, q, rfl⟩)
        go_ret2
        exact levRet_no hf hL hBk
      · go_wp2_with (go_at_call 61; refine (onlyFinite_any _ w.heap.size (J + 1) X _ hownk (by omega)).mono ?_; rintro e w' ⟨rfl, q, rfl⟩)
        go_ret2
        exact levRet_yes hf hL hownk hBk
theorem implTop_no (a b : Nat) (c : Int) (w : World) (R : Nat → Nat) (h : isG a = false ∨ isG b = false ∨ c < 0 ∨ 40 < c) :
    Calls Try.prog 31 #[.float .f32 a, .float .f32 b, .int .i64 c] w (OutRet R 0 false w) := by
  have hrd := rd_two w a b 29
  have hBa : Below w.heap.size w (w.alloc (.cells #[.float .f32 a, .float .f32 b] 29)) := (Below.refl _ w).alloc (Nat.le_refl _) _
  cases hg2 : gL (two a b) 2
  · clear h
    go_enter Try.func31, Try.ntmps31
    go_wp2_with (first | (go_at_call 71; refine (areAtLeastZero_any _ _ _ (two a b) _ (by exact hrd) (by omega)).mono ?_; rintro e w' ⟨rfl, q, rfl⟩))
    go_ret2
    exact OutRet.no (Below.drewN hBa _)
  · have d1 : c < 0 ∨ 40 < c := by
      rw [gL_two] at hg2
      rcases h with h | h | h | h
      · rw [h] at hg2; cases hg2
      · rw [h] at hg2; simp at hg2
      · exact .inl h
      · exact .inr h
    clear h
    by_cases h0 : c < 0
    · have dl : decide (c < 0) = true := decide_eq_true h0
      clear d1
      go_enter Try.func31, Try.ntmps31
      go_wp2_with (first | (go_at_call 71; refine (areAtLeastZero_any _ _ _ (two a b) _ (by exact hrd) (by omega)).mono ?_; rintro e w' ⟨rfl, q, rfl⟩))
      go_ret2
      exact OutRet.no (Below.drewN hBa _)
    have h1 : 40 < c := by omega
    have dl : decide (c < 0) = false := decide_eq_false h0
    have dg : decide (40 < c) = true := decide_eq_true h1
    clear d1
    go_enter Try.func31, Try.ntmps31
    go_wp2_with (first | (go_at_call 71; refine (areAtLeastZero_any _ _ _ (two a b) _ (by exact hrd) (by omega)).mono ?_; rintro e w' ⟨rfl, q, rfl⟩) )
    go_ret2
    exact OutRet.no (Below.drewN hBa _)
end Go.Proofs.Ytffhnkhjfggooaa
