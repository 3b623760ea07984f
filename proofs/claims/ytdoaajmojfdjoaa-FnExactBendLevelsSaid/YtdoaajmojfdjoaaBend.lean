/- The levels of what swings less and less: as the model tells them, and as the program does. -/
import Derived.Test.YtdoaajmojfdjoaaSwing
import Derived.WalkMore
namespace Go.Proofs.Ytdoaajmojfdjoaa
open Go Go.ChangeShapes Go.WideShapes Go.ChangeAt Go.RowKit

def gtF (a b : Nat) : Bool := FloatKind.f32.format.order a b == some .gt
def bendV (k : Int) : Nat := fbin .add .f32 (floatOfInt .f32 k) 1056964608
def bendR (rate bend : Nat) (k : Nat) : Nat := fbin .sub .f32 (fbin .mul .f32 rate (bendV k)) (fbin .mul .f32 (fbin .mul .f32 bend (bendV k)) (bendV k))
/-- How many rise. -/
def IsC (R : Nat → Nat) (c : Nat) : Prop := c ≤ 48 ∧ (∀ j, j + 1 < c → gtF (R (j + 1)) (R j) = true) ∧ (c = 48 ∨ ∃ j, c = j + 1 ∧ gtF (R (j + 1)) (R j) = false)
theorem isC_lt {R : Nat → Nat} {c k : Nat} (h : IsC R c) (hk : k < 48) (hg : ∀ j, j + 1 < k + 1 → gtF (R (j + 1)) (R j) = true) : k < c := by
  rcases h.2.2 with h1 | ⟨j, h1, h2⟩
  · omega
  · by_cases hc : k < c
    · exact hc
    · have := hg j (by omega)
      rw [this] at h2; cases h2
theorem isC_uniq {R : Nat → Nat} {c k : Nat} (h : IsC R c) (h' : IsC R k) : c = k := by
  have a1 : c ≤ k := by
    by_cases hh : c ≤ k
    · exact hh
    · exfalso
      rcases h'.2.2 with h1 | ⟨j, h1, h2⟩
      · have := h.1; omega
      · have := h.2.1 j (by omega)
        rw [this] at h2; cases h2
  have a2 : k ≤ c := by
    by_cases hh : k ≤ c
    · exact hh
    · exfalso
      rcases h.2.2 with h1 | ⟨j, h1, h2⟩
      · have := h'.1; omega
      · have := h'.2.1 j (by omega)
        rw [this] at h2; cases h2
  omega
theorem isC_some (R : Nat → Nat) : ∀ d k, k + d = 48 → 1 ≤ k → (∀ j, j + 1 < k → gtF (R (j + 1)) (R j) = true) → ∃ c, IsC R c := by
  intro d
  induction d with
  | zero => intro k hk _ hg; exact ⟨k, by omega, hg, .inl (by omega)⟩
  | succ d ih =>
    intro k hk h1 hg
    obtain ⟨j, rfl⟩ : ∃ j, k = j + 1 := ⟨k - 1, by omega⟩
    cases hgt : gtF (R (j + 1)) (R j)
    · exact ⟨j + 1, by omega, hg, .inr ⟨j, rfl, hgt⟩⟩
    · refine ih (j + 1 + 1) (by omega) (by omega) fun i hi => ?_
      by_cases hij : i + 1 < j + 1
      · exact hg i hij
      · rw [show i = j by omega]; exact hgt
theorem rise_step {R : Nat → Nat} {j : Nat} (hg : ∀ i, i + 1 < j + 1 → gtF (R (i + 1)) (R i) = true) (h : gtF (R (j + 1)) (R j) = true) : ∀ i, i + 1 < j + 1 + 1 → gtF (R (i + 1)) (R i) = true := by
  intro i hi
  by_cases hij : i + 1 < j + 1
  · exact hg i hij
  · rw [show i = j by omega]; exact h
theorem levRet_fail {R : Nat → Nat} {c : Nat} {w w' : World} (h : finL R c = false) (hb : Below w.heap.size w w') : LevRet R c w (.returned (.tuple #[.slice none 0 0, .bool false])) w' := by
  unfold LevRet
  rw [h]
  exact OutRet.no hb
theorem own_slice {w : World} {B e : Nat} {v : Value} {j : Nat} {X : Nat → Nat} (h : w.ownsRow B e 1 v (j + 1) (rowOf X (j + 1))) :
    ∃ g cap, v = .slice (some ⟨g, 0, none⟩) (j + 1) cap ∧ w.cell? ⟨g, j, none⟩ = some (.float .f32 (X j)) := by
  have h0 := h
  rcases h.2 with ⟨_, h2⟩ | ⟨g, cap, cur, rfl, _⟩
  · omega
  · exact ⟨g, cap, rfl, by rw [h0.cellAt j (by omega), rowOf_get _ _ _ (by omega)]⟩
set_option maxRecDepth 100000 in
set_option maxHeartbeats 3200000 in
theorem specBend_yes (rate bend : Nat) (c : Nat) (w : World) (hr : isP rate = true) (hb : isP bend = true) (hc : IsC (bendR rate bend) c) :
    Calls Try.prog 38 #[.float .f32 rate, .float .f32 bend] w (LevRet (bendR rate bend) c w) := by
  obtain ⟨i0, hi, hz0, hz1, hz2⟩ := info_parts infoF
  have HC := Lib.hid hc
  clear hc
  go_enter Try.func38, Try.ntmps38
  go_wp2_with (first | (go_at_call 64; refine (l02Above_any _ _).mono ?_; rintro e w' ⟨rfl, q, rfl⟩))
  go_loopw [6, 7] (fun v i wr => ∃ (k : Nat) (X : Nat → Nat), k ≤ 48 ∧ i = .int .i64 (k : Int) ∧ wr.ownsRow w.heap.size 32 1 v k (rowOf X k) ∧ Like X (bendR rate bend) k ∧ Below w.heap.size w wr ∧ Hid (∀ j, j + 1 < k → gtF (bendR rate bend (j + 1)) (bendR rate bend j) = true)) (fun _ i _ => 48 - (intOf i).toNat)
  case atStart => exact ⟨0, fun _ => 0, Nat.zero_le _, rfl, own_empty _ _, fun _ h => absurd h (Nat.not_lt_zero _), Below.alloc (Below.drewN (Below.refl _ _) _) (Nat.le_refl _) _, Lib.hid fun j h => absurd h (Nat.not_lt_zero _)⟩
  case round =>
    obtain ⟨k, X, hk, rfl, hownk, hL, hBk, HG⟩ := hrel
    have hsz := hBk.size
    have hp := fun op => fbin_pick_l op .f32
    have hq := fun op => fbin_pick_r op .f32
    have ho := order_pick_l .f32
    by_cases hlt : k < 48
    · obtain ⟨Y, hY⟩ : ∃ Y, bendR rate bend k = Y := ⟨_, rfl⟩
      have HR := Lib.hid hY
      clear hY
      rcases Nat.eq_zero_or_pos k with rfl | hpos
      · have hy : fbin .sub .f32 (fbin .mul .f32 rate (fbin .add .f32 (floatOfInt .f32 0) 1056964608)) (fbin .mul .f32 (fbin .mul .f32 bend (fbin .add .f32 (floatOfInt .f32 0) 1056964608)) (fbin .add .f32 (floatOfInt .f32 0) 1056964608)) = Y := HR.out
        go_wp2_with (first | ((with_reducible refine wpL_fbin ?_); refine ⟨_, _, _, rfl, rfl, rfl, fun s n => ?_⟩) | (at_builtin; refine wpL_push hi hz0 hz1 hz2 rfl rfl rfl rfl (by exact hownk) (by omega) (by exact hsz) ?_; intro v' w1 hown' hB'))
        go_roundw
        case rel => exact ⟨0 + 1, _, by omega, by go_num, hown', like_push hL (by rw [HR.out]), Below.trans (Below.drewN hBk _) hB', Lib.hid fun j h => absurd h (by omega)⟩
        case measure => simp [intOf]
      · obtain ⟨j, rfl⟩ : ∃ j, k = j + 1 := ⟨k - 1, by omega⟩
        have hy : fbin .sub .f32 (fbin .mul .f32 rate (fbin .add .f32 (floatOfInt .f32 ((j : Int) + 1)) 1056964608)) (fbin .mul .f32 (fbin .mul .f32 bend (fbin .add .f32 (floatOfInt .f32 ((j : Int) + 1)) 1056964608)) (fbin .add .f32 (floatOfInt .f32 ((j : Int) + 1)) 1056964608)) = Y := HR.out
        obtain ⟨g, cap, rfl, hcell⟩ := own_slice hownk
        have hoo : FloatKind.f32.format.order Y (X j) = FloatKind.f32.format.order Y (bendR rate bend j) := order_congr rfl (hL j (by omega))
        cases hgt : gtF (bendR rate bend (j + 1)) (bendR rate bend j)
        · have hgt' : (FloatKind.f32.format.order Y (X j) == some .gt) = false := by rw [hoo, ← HR.out]; exact hgt
          have HE := Lib.hid (isC_uniq HC.out ⟨by omega, HG.out, .inr ⟨j, rfl, hgt⟩⟩)
          have hj2 : (0 : Int) < (j : Int) + 1 := by omega
          have hdj : decide ((0 : Int) < (j : Int) + 1) = true := decide_eq_true hj2
          clear hoo hgt
          cases hf : finL X (j + 1)
          · go_wp2_with (first | ((with_reducible refine wpL_fbin ?_); refine ⟨_, _, _, rfl, rfl, rfl, fun s n => ?_⟩) | (go_at_call 66; refine (l02List_any _ w.heap.size _ X _ (by exact hownk) (by omega)).mono ?_; rintro e w' ⟨rfl, q, rfl⟩))
            go_ret2
            rw [HE.out]
            exact levRet_no hf hL hBk
          · go_wp2_with (first | ((with_reducible refine wpL_fbin ?_); refine ⟨_, _, _, rfl, rfl, rfl, fun s n => ?_⟩) | (go_at_call 66; refine (l02List_any _ w.heap.size _ X _ (by exact hownk) (by omega)).mono ?_; rintro e w' ⟨rfl, q, rfl⟩))
            go_ret2
            rw [HE.out]
            exact levRet_yes hf hL hownk hBk
        · have hgt' : (FloatKind.f32.format.order Y (X j) == some .gt) = true := by rw [hoo, ← HR.out]; exact hgt
          have HN := Lib.hid (rise_step HG.out hgt)
          have hj2 : (0 : Int) < (j : Int) + 1 := by omega
          have hdj : decide ((0 : Int) < (j : Int) + 1) = true := decide_eq_true hj2
          clear hoo hgt
          go_wp2_with (first | ((with_reducible refine wpL_fbin ?_); refine ⟨_, _, _, rfl, rfl, rfl, fun s n => ?_⟩) | (at_builtin; refine wpL_push hi hz0 hz1 hz2 rfl rfl rfl rfl (by exact hownk) (by omega) (by exact hsz) ?_; intro v' w1 hown' hB'))
          go_roundw
          case rel => exact ⟨j + 1 + 1, _, by omega, by go_num, hown', like_push hL (by rw [HR.out]), Below.trans (Below.drewN hBk _) hB', HN⟩
          case measure => simp [intOf]; omega
    · have hk8 : k = 48 := by omega
      subst hk8
      have HE := Lib.hid (isC_uniq HC.out ⟨by omega, HG.out, .inl rfl⟩)
      cases hf : finL X 48
      · go_wp2_with (first | ((with_reducible refine wpL_fbin ?_); refine ⟨_, _, _, rfl, rfl, rfl, fun s n => ?_⟩) | (go_at_call 66; refine (l02List_any _ w.heap.size _ X _ (by exact hownk) (by omega)).mono ?_; rintro e w' ⟨rfl, q, rfl⟩))
        go_ret2
        rw [HE.out]
        exact levRet_no hf hL hBk
      · go_wp2_with (first | ((with_reducible refine wpL_fbin ?_); refine ⟨_, _, _, rfl, rfl, rfl, fun s n => ?_⟩) | (go_at_call 66; refine (l02List_any _ w.heap.size _ X _ (by exact hownk) (by omega)).mono ?_; rintro e w' ⟨rfl, q, rfl⟩))
        go_ret2
        rw [HE.out]
        exact levRet_yes hf hL hownk hBk
theorem bend_no1 (rate bend : Nat) (w : World) (h : isP rate = false ∨ isP bend = false) (R : Nat → Nat) : Calls Try.prog 38 #[.float .f32 rate, .float .f32 bend] w (OutRet R 0 false w) := by
  cases hr : isP rate
  · clear h
    go_enter Try.func38, Try.ntmps38
    go_wp2_with (first | (go_at_call 64; refine (l02Above_any _ _).mono ?_; rintro e w' ⟨rfl, q, rfl⟩))
    go_ret2
    exact OutRet.no (Below.drewN (Below.refl _ _) _)
  · have hb : isP bend = false := by
      rcases h with h | h
      · rw [hr] at h; cases h
      · exact h
    clear h
    go_enter Try.func38, Try.ntmps38
    go_wp2_with (first | (go_at_call 64; refine (l02Above_any _ _).mono ?_; rintro e w' ⟨rfl, q, rfl⟩))
    go_ret2
    exact OutRet.no (Below.drewN (Below.refl _ _) _)
theorem bend_no2 (rate bend : Nat) (w : World) (h : isP rate = false ∨ isP bend = false) (R : Nat → Nat) : Calls Try.prog 39 #[.float .f32 rate, .float .f32 bend] w (OutRet R 0 false w) := by
  cases hr : isP rate
  · clear h
    go_enter Try.func39, Try.ntmps39
    go_wp2
    go_step3
    go_wp2_with (first | (go_at_call 60; refine (isPositive_any _ _).mono ?_; rintro e w' ⟨rfl, q, rfl⟩))
    rw [Exit.noGoto_ret]
    go_ret2
    exact OutRet.no (Below.drewN (Below.refl _ _) _)
  · have hb : isP bend = false := by
      rcases h with h | h
      · rw [hr] at h; cases h
      · exact h
    clear h
    go_enter Try.func39, Try.ntmps39
    go_wp2
    go_step3
    go_wp2_with (first | (go_at_call 60; refine (isPositive_any _ _).mono ?_; rintro e w' ⟨rfl, q, rfl⟩))
    rw [Exit.noGoto_ret]
    go_ret2
    exact OutRet.no (Below.drewN (Below.refl _ _) _)
set_option maxRecDepth 100000 in
set_option maxHeartbeats 3200000 in
theorem implBend_yes (rate bend : Nat) (c : Nat) (w : World) (hr : isP rate = true) (hb : isP bend = true) (hc : IsC (bendR rate bend) c) :
    Calls Try.prog 39 #[.float .f32 rate, .float .f32 bend] w (LevRet (bendR rate bend) c w) := by
  obtain ⟨i0, hi, hz0, hz1, hz2⟩ := info_parts infoF
  have HC := Lib.hid hc
  clear hc
  go_enter Try.func39, Try.ntmps39
  go_wp2
  go_step3
  go_wp2_with (first | (go_at_call 60; refine (isPositive_any _ _).mono ?_; rintro e w' ⟨rfl, q, rfl⟩))
  go_step3
  go_wp2
  go_loopw [6, 18] (fun v i wr => ∃ (k : Nat) (X : Nat → Nat), k ≤ 48 ∧ i = .int .i64 (k : Int) ∧ wr.ownsRow w.heap.size 32 1 v k (rowOf X k) ∧ Like X (bendR rate bend) k ∧ Below w.heap.size w wr ∧ Hid (∀ j, j + 1 < k → gtF (bendR rate bend (j + 1)) (bendR rate bend j) = true) ∧ Hid (∀ j, j < k → isFin .f32 (bendR rate bend j) = true)) (fun _ i _ => 48 - (intOf i).toNat)
  case atStart => exact ⟨0, fun _ => 0, Nat.zero_le _, rfl, World.ownsRow_nil _ _ _ _, fun _ h => absurd h (Nat.not_lt_zero _), Below.drewN (Below.refl _ _) _, Lib.hid fun j h => absurd h (Nat.not_lt_zero _), Lib.hid fun j h => absurd h (Nat.not_lt_zero _)⟩
  case round =>
    obtain ⟨k, X, hk, rfl, hownk, hL, hBk, HG, HFn⟩ := hrel
    have hsz := hBk.size
    have hp := fun op => fbin_pick_l op .f32
    have hq := fun op => fbin_pick_r op .f32
    have ho := order_pick_l .f32
    by_cases hlt : k < 48
    · obtain ⟨Y, hY⟩ : ∃ Y, bendR rate bend k = Y := ⟨_, rfl⟩
      have HR := Lib.hid hY
      clear hY
      rcases Nat.eq_zero_or_pos k with rfl | hpos
      · have hy : fbin .sub .f32 (fbin .mul .f32 rate (fbin .add .f32 (floatOfInt .f32 0) 1056964608)) (fbin .mul .f32 (fbin .mul .f32 bend (fbin .add .f32 (floatOfInt .f32 0) 1056964608)) (fbin .add .f32 (floatOfInt .f32 0) 1056964608)) = Y := HR.out
        have hlc := isC_lt HC.out hlt (fun j h => absurd h (by omega))
        cases hfin : isFin .f32 Y
        · have HE := Lib.hid (finL_no (X := bendR rate bend) hlc (by rw [HR.out]; exact hfin))
          have hfp : ∀ s, isFin .f32 (pick .f32 Y s) = false := fun s => by rw [isFin_pick, hfin]
          clear hlc
          go_wp2_with (first | ((with_reducible refine wpL_fbin ?_); refine ⟨_, _, _, rfl, rfl, rfl, fun s n => ?_⟩) | (go_at_call 56; refine (IsFinite_any _ _).mono ?_; rintro e w' ⟨rfl, q, rfl⟩) | (at_builtin; refine wpL_push hi hz0 hz1 hz2 rfl rfl rfl rfl (by exact hownk) (by omega) (by exact hsz) ?_; intro v' w1 hown' hB'))
          try rw [Exit.noGoto_ret]
          go_ret2
          exact levRet_fail HE.out (Below.drewN hBk _)
        · have hfp : ∀ s, isFin .f32 (pick .f32 Y s) = true := fun s => by rw [isFin_pick, hfin]
          have HN := Lib.hid (show ∀ j, j < 0 + 1 → isFin .f32 (bendR rate bend j) = true from fun j hj => by rw [show j = 0 by omega, HR.out]; exact hfin)
          clear hlc
          go_wp2_with (first | ((with_reducible refine wpL_fbin ?_); refine ⟨_, _, _, rfl, rfl, rfl, fun s n => ?_⟩) | (go_at_call 56; refine (IsFinite_any _ _).mono ?_; rintro e w' ⟨rfl, q, rfl⟩) | (at_builtin; refine wpL_push hi hz0 hz1 hz2 rfl rfl rfl rfl (by exact hownk) (by omega) (by exact hsz) ?_; intro v' w1 hown' hB'))
          go_roundw
          case rel => exact ⟨0 + 1, _, by omega, by go_num, hown', like_push hL (by rw [HR.out]), Below.trans (Below.drewN hBk _) hB', Lib.hid fun j h => absurd h (by omega), HN⟩
          case measure => simp [intOf]
      · obtain ⟨j, rfl⟩ : ∃ j, k = j + 1 := ⟨k - 1, by omega⟩
        have hy : fbin .sub .f32 (fbin .mul .f32 rate (fbin .add .f32 (floatOfInt .f32 ((j : Int) + 1)) 1056964608)) (fbin .mul .f32 (fbin .mul .f32 bend (fbin .add .f32 (floatOfInt .f32 ((j : Int) + 1)) 1056964608)) (fbin .add .f32 (floatOfInt .f32 ((j : Int) + 1)) 1056964608)) = Y := HR.out
        obtain ⟨g, cap, rfl, hcell⟩ := own_slice hownk
        have hoo : FloatKind.f32.format.order Y (X j) = FloatKind.f32.format.order Y (bendR rate bend j) := order_congr rfl (hL j (by omega))
        have hj2 : (0 : Int) < (j : Int) + 1 := by omega
        have hdj : decide ((0 : Int) < (j : Int) + 1) = true := decide_eq_true hj2
        cases hgt : gtF (bendR rate bend (j + 1)) (bendR rate bend j)
        · have hgt' : (FloatKind.f32.format.order Y (X j) == some .gt) = false := by rw [hoo, ← HR.out]; exact hgt
          have HE := Lib.hid (isC_uniq HC.out ⟨by omega, HG.out, .inr ⟨j, rfl, hgt⟩⟩)
          have HX := Lib.hid ((finL_like hL).trans (finL_yes HFn.out))
          clear hoo hgt
          go_wp2_with (first | ((with_reducible refine wpL_fbin ?_); refine ⟨_, _, _, rfl, rfl, rfl, fun s n => ?_⟩) | (go_at_call 56; refine (IsFinite_any _ _).mono ?_; rintro e w' ⟨rfl, q, rfl⟩) | (at_builtin; refine wpL_push hi hz0 hz1 hz2 rfl rfl rfl rfl (by exact hownk) (by omega) (by exact hsz) ?_; intro v' w1 hown' hB'))
          try rw [Exit.noGoto_ret]
          go_ret2
          rw [HE.out]
          exact levRet_yes HX.out hL hownk hBk
        · have hgt' : (FloatKind.f32.format.order Y (X j) == some .gt) = true := by rw [hoo, ← HR.out]; exact hgt
          have HN := Lib.hid (rise_step HG.out hgt)
          have hlc := isC_lt HC.out hlt HN.out
          clear hoo hgt
          cases hfin : isFin .f32 Y
          · have HE := Lib.hid (finL_no (X := bendR rate bend) hlc (by rw [HR.out]; exact hfin))
            have hfp : ∀ s, isFin .f32 (pick .f32 Y s) = false := fun s => by rw [isFin_pick, hfin]
            clear hlc
            go_wp2_with (first | ((with_reducible refine wpL_fbin ?_); refine ⟨_, _, _, rfl, rfl, rfl, fun s n => ?_⟩) | (go_at_call 56; refine (IsFinite_any _ _).mono ?_; rintro e w' ⟨rfl, q, rfl⟩) | (at_builtin; refine wpL_push hi hz0 hz1 hz2 rfl rfl rfl rfl (by exact hownk) (by omega) (by exact hsz) ?_; intro v' w1 hown' hB'))
            try rw [Exit.noGoto_ret]
            go_ret2
            exact levRet_fail HE.out (Below.drewN hBk _)
          · have hfp : ∀ s, isFin .f32 (pick .f32 Y s) = true := fun s => by rw [isFin_pick, hfin]
            have HM := Lib.hid (show ∀ i, i < j + 1 + 1 → isFin .f32 (bendR rate bend i) = true from fun i hi => by
              by_cases hij : i < j + 1
              · exact HFn.out i hij
              · rw [show i = j + 1 by omega, HR.out]; exact hfin)
            clear hlc
            go_wp2_with (first | ((with_reducible refine wpL_fbin ?_); refine ⟨_, _, _, rfl, rfl, rfl, fun s n => ?_⟩) | (go_at_call 56; refine (IsFinite_any _ _).mono ?_; rintro e w' ⟨rfl, q, rfl⟩) | (at_builtin; refine wpL_push hi hz0 hz1 hz2 rfl rfl rfl rfl (by exact hownk) (by omega) (by exact hsz) ?_; intro v' w1 hown' hB'))
            go_roundw
            case rel => exact ⟨j + 1 + 1, _, by omega, by go_num, hown', like_push hL (by rw [HR.out]), Below.trans (Below.drewN hBk _) hB', HN, HM⟩
            case measure => simp [intOf]; omega
    · have hk8 : k = 48 := by omega
      subst hk8
      have HE := Lib.hid (isC_uniq HC.out ⟨by omega, HG.out, .inl rfl⟩)
      have HX := Lib.hid ((finL_like hL).trans (finL_yes HFn.out))
      go_wp2
      try rw [Exit.noGoto_ret]
      go_ret2
      rw [HE.out]
      exact levRet_yes (m := 0) HX.out hL hownk hBk
end Go.Proofs.Ytdoaajmojfdjoaa
