/- The height at a place: as the model tells it, and as the program does. -/
import Derived.Test.YtdoaajmojfdjoaaVal
namespace Go.Proofs.Ytdoaajmojfdjoaa
open Go Go.ChangeShapes Go.WideShapes Go.ChangeAt Go.RowKit

def hGo (X : Nat → Nat) (x : Nat) : Nat → Nat → Nat
  | 0, k => k
  | f + 1, k => if leF (X k) x = true then hGo X x f (k + 1) else k
/-- The piece of a place. -/
def hI (X : Nat → Nat) (x n : Nat) : Nat := hGo X x n 0
theorem hGo_at {X : Nat → Nat} {x n : Nat} : ∀ k, k ≤ n → (∀ j, j < k → leF (X j) x = true) → hI X x n = hGo X x (n - k) k := by
  intro k
  induction k with
  | zero => intro _ _; rfl
  | succ k ih =>
    intro hk h
    rw [ih (by omega) (fun j hj => h j (by omega)), show n - k = (n - (k + 1)) + 1 by omega, hGo, if_pos (h k (by omega))]
theorem hI_end {X : Nat → Nat} {x n : Nat} (h : ∀ j, j < n → leF (X j) x = true) : hI X x n = n := by
  rw [hGo_at n (Nat.le_refl _) h, Nat.sub_self, hGo]
theorem hI_stop {X : Nat → Nat} {x n k : Nat} (hk : k < n) (h : ∀ j, j < k → leF (X j) x = true) (hs : leF (X k) x = false) : hI X x n = k := by
  rw [hGo_at k (by omega) h, show n - k = (n - k - 1) + 1 by omega, hGo, hs]
  rfl
theorem ret_flt {a b : Nat} (h : a = b) : Ending.returned (.float .f32 a) = .returned (.float .f32 b) := by rw [h]
theorem ret_flt2 {a b : Nat} {c : Bool} (h : a = b) : Ending.returned (.tuple #[.float .f32 a, .bool c]) = .returned (.tuple #[.float .f32 b, .bool c]) := by rw [h]
theorem ok_parts {X Y : Nat → Nat} {n m : Nat} (h : stepsOk X n Y m = true) : n < 12 ∧ m = n + 1 := by
  by_cases hh : n < 12 ∧ m = n + 1
  · exact hh
  · rw [ok_len hh] at h; cases h
set_option maxHeartbeats 3200000 in
theorem l02Height_any (b : Nat) (xa ya : Option Addr) (n m cx cy : Nat) (X Y : Nat → Nat) (x : Nat) (w : World) (c0 : w.cell? ⟨b, 0, none⟩ = some (.slice xa n cx)) (c1 : w.cell? ⟨b, 1, none⟩ = some (.slice ya m cy)) (hX : Rd w xa n X) (hY : Rd w ya m Y) (hn : n < 12) (hm : n < m) (hm2 : m ≤ 1048576) :
    Calls Try.prog 55 #[.pointer (some ⟨b, 0, none⟩), .float .f32 x] w fun e w' => e = .returned (.float .f32 (Y (hI X x n))) ∧ ∃ q, w' = w.drewN q := by
  obtain ⟨xb, xo, hxa, hcx⟩ := hX
  obtain ⟨yb, yo, hya, hcy⟩ := hY
  have HX := Lib.hid hcx
  have HY := Lib.hid hcy
  clear hcx hcy
  have e := hya (by omega)
  subst e
  clear hya
  go_enter Try.func55, Try.ntmps55
  go_wp2
  go_loopw [5] (fun i wr => ∃ k q : Nat, k ≤ n ∧ i = .int .i64 k ∧ wr = w.drewN q ∧ Hid (∀ j, j < k → leF (X j) x = true)) (fun i _ => n - (intOf i).toNat)
  case atStart => exact ⟨0, 0, Nat.zero_le _, rfl, rfl, Lib.hid fun j hj => absurd hj (Nat.not_lt_zero _)⟩
  case round =>
    obtain ⟨k, q, hk, rfl, rfl, HF⟩ := hrel
    have rY := HY.out k (by omega)
    have hkm : (k : Int) < (m : Int) := by omega
    by_cases hlt : k < n
    · have hg : decide (k < n) = true := decide_eq_true hlt
      have e := hxa (by omega)
      subst e
      have r1 := HX.out k hlt
      cases hle : leF (X k) x
      · have HN := Lib.hid (hI_stop hlt HF.out hle)
        have hle' : (FloatKind.f32.format.order (X k) x == some .lt || FloatKind.f32.format.order (X k) x == some .eq) = false := hle
        clear hle
        go_wp2
        go_ret
        exact ⟨ret_flt (by rw [HN.out]), _, rfl⟩
      · have HN := Lib.hid (show ∀ j, j < k + 1 → leF (X j) x = true from fun j hj => by
          by_cases hj' : j < k
          · exact HF.out j hj'
          · rw [show j = k by omega]; exact hle)
        have hle' : (FloatKind.f32.format.order (X k) x == some .lt || FloatKind.f32.format.order (X k) x == some .eq) = true := hle
        clear hle
        go_wp2
        go_roundw
        case rel => exact ⟨k + 1, _, by omega, by go_num, rfl, HN⟩
        case measure => simp [intOf]; omega
    · have hg : decide (k < n) = false := decide_eq_false hlt
      have hkn : k = n := by omega
      have HN := Lib.hid (show hI X x n = k by rw [hkn]; exact hI_end (hkn ▸ HF.out))
      clear hkn
      go_wp2
      go_ret
      exact ⟨ret_flt (by rw [HN.out]), _, rfl⟩
/-- A number, the same bits, and a bool. -/
def HtRet (r : Nat) (ok : Bool) (w : World) (e : Ending) (w' : World) : Prop := e = .returned (.tuple #[.float .f32 r, .bool ok]) ∧ Below w.heap.size w w'
set_option maxHeartbeats 800000 in
theorem specHt_yes (xa ya : Option Addr) (n m cx cy : Nat) (X Y : Nat → Nat) (x : Nat) (w : World) (hX : Rd w xa n X) (hY : Rd w ya m Y) (hok : stepsOk X n Y m = true) (hx : isFin .f32 x = true) :
    Calls Try.prog 22 #[.agg #[.slice xa n cx, .slice ya m cy], .float .f32 x] w (HtRet (Y (hI X x n)) true w) := by
  obtain ⟨h1, h2⟩ := ok_parts hok
  have h3 : n < m := by omega
  have h4 : m ≤ 1048576 := by omega
  clear h2
  go_enter Try.func22, Try.ntmps22
  go_wp2_with fail
  refine (l02Is_any _ _ _ n m cx cy X Y _ (by simp) (by simp) (hX.alloc _) (hY.alloc _) (by omega) h4).mono ?_
  rintro e w' ⟨rfl, q, rfl⟩
  go_wp2_with fail
  refine (l01Finite_any _ _).mono ?_
  rintro e w' ⟨rfl, q2, rfl⟩
  go_wp2_with fail
  refine (l02Height_any _ xa ya n m cx cy X Y x _ (by simp) (by simp) (by exact hX.alloc _) (by exact hY.alloc _) h1 h3 h4).mono ?_
  rintro e w' ⟨rfl, q3, rfl⟩
  go_wp2
  go_ret2
  exact ⟨rfl, Below.drewN ((Below.refl _ _).alloc (Nat.le_refl _) _) _⟩
theorem specHt_no (xa ya : Option Addr) (n m cx cy : Nat) (X Y : Nat → Nat) (x : Nat) (w : World) (hX : Rd w xa n X) (hY : Rd w ya m Y) (hn : n ≤ 1048576) (hm : m ≤ 1048576) (hok : stepsOk X n Y m = false ∨ isFin .f32 x = false) :
    Calls Try.prog 22 #[.agg #[.slice xa n cx, .slice ya m cy], .float .f32 x] w (HtRet 0 false w) := by
  cases h1 : stepsOk X n Y m
  · clear hok
    go_enter Try.func22, Try.ntmps22
    go_wp2_with fail
    refine (l02Is_any _ _ _ n m cx cy X Y _ (by simp) (by simp) (hX.alloc _) (hY.alloc _) hn hm).mono ?_
    rintro e w' ⟨rfl, q, rfl⟩
    go_wp2
    go_ret2
    exact ⟨rfl, Below.drewN ((Below.refl _ _).alloc (Nat.le_refl _) _) _⟩
  · have hx : isFin .f32 x = false := by
      rcases hok with h | h
      · rw [h1] at h; cases h
      · exact h
    clear hok
    go_enter Try.func22, Try.ntmps22
    go_wp2_with fail
    refine (l02Is_any _ _ _ n m cx cy X Y _ (by simp) (by simp) (hX.alloc _) (hY.alloc _) hn hm).mono ?_
    rintro e w' ⟨rfl, q, rfl⟩
    go_wp2_with fail
    refine (l01Finite_any _ _).mono ?_
    rintro e w' ⟨rfl, q2, rfl⟩
    go_wp2
    go_ret2
    exact ⟨rfl, Below.drewN ((Below.refl _ _).alloc (Nat.le_refl _) _) _⟩
theorem implHt_no (xa ya : Option Addr) (n m cx cy : Nat) (X Y : Nat → Nat) (x : Nat) (w : World) (hX : Rd w xa n X) (hY : Rd w ya m Y) (hn : n ≤ 1048576) (hm : m ≤ 1048576) (hok : stepsOk X n Y m = false ∨ isFin .f32 x = false) :
    Calls Try.prog 23 #[.agg #[.slice xa n cx, .slice ya m cy], .float .f32 x] w (HtRet 0 false w) := by
  have HA := (Below.refl w.heap.size w).alloc (Nat.le_refl _) (.cells #[.slice xa n cx, .slice ya m cy] 27)
  cases h1 : stepsOk X n Y m
  · clear hok
    go_enter Try.func23, Try.ntmps23
    go_wp2_with fail
    refine (implValid_any _ _ n m cx cy X Y _ (hX.alloc _) (hY.alloc _) hn hm).mono ?_
    rintro e w' ⟨rfl, B0⟩
    have HA2 := HA.trans (B0.mono (by simp))
    clear B0 HA
    go_wp2
    go_ret2
    exact ⟨rfl, HA2⟩
  · have hx : isFin .f32 x = false := by
      rcases hok with h | h
      · rw [h1] at h; cases h
      · exact h
    clear hok
    go_enter Try.func23, Try.ntmps23
    go_wp2_with fail
    refine (implValid_any _ _ n m cx cy X Y _ (hX.alloc _) (hY.alloc _) hn hm).mono ?_
    rintro e w' ⟨rfl, B0⟩
    have HA2 := HA.trans (B0.mono (by simp))
    clear B0 HA
    go_wp2_with fail
    refine (IsFinite_any _ _).mono ?_
    rintro e w' ⟨rfl, q2, rfl⟩
    go_wp2
    go_ret2
    exact ⟨rfl, Below.drewN HA2 _⟩
set_option maxHeartbeats 3200000 in
theorem implHt_yes (xa ya : Option Addr) (n m cx cy : Nat) (X Y : Nat → Nat) (x : Nat) (w : World) (hX : Rd w xa n X) (hY : Rd w ya m Y) (hok : stepsOk X n Y m = true) (hx : isFin .f32 x = true) :
    Calls Try.prog 23 #[.agg #[.slice xa n cx, .slice ya m cy], .float .f32 x] w (HtRet (Y (hI X x n)) true w) := by
  obtain ⟨h1, h2⟩ := ok_parts hok
  have h3 : n < m := by omega
  have h4 : m ≤ 1048576 := by omega
  clear h2
  have HA := (Below.refl w.heap.size w).alloc (Nat.le_refl _) (.cells #[.slice xa n cx, .slice ya m cy] 27)
  have HQ := box2_alloc w (.slice xa n cx) (.slice ya m cy) 27
  go_enter Try.func23, Try.ntmps23
  go_wp2_with fail
  refine (implValid_any _ _ n m cx cy X Y _ (hX.alloc _) (hY.alloc _) (by omega) h4).mono ?_
  rintro e w1 ⟨rfl, B0⟩
  have HA2 := HA.trans (B0.mono (by simp))
  replace HQ := HQ.below B0
  replace hX := hX.below HA2
  replace hY := hY.below HA2
  clear B0 HA
  go_wp2_with fail
  refine (IsFinite_any _ _).mono ?_
  rintro e w' ⟨rfl, q2, rfl⟩
  obtain ⟨q0, q1⟩ := HQ
  obtain ⟨xb, xo, hxa, hcx⟩ := hX
  obtain ⟨yb, yo, hya, hcy⟩ := hY
  have HX := Lib.hid hcx
  have HY := Lib.hid hcy
  clear hcx hcy
  have e := hya (by omega)
  subst e
  clear hya
  go_wp2
  go_loopw [6] (fun i wr => ∃ k q : Nat, k ≤ n ∧ i = .int .i64 k ∧ wr = w1.drewN q ∧ Hid (∀ j, j < k → leF (X j) x = true)) (fun i _ => n - (intOf i).toNat)
  case atStart => exact ⟨0, _, Nat.zero_le _, rfl, rfl, Lib.hid fun j hj => absurd hj (Nat.not_lt_zero _)⟩
  case round =>
    obtain ⟨k, q, hk, rfl, rfl, HF⟩ := hrel
    have rY := HY.out k (by omega)
    have hkm : (k : Int) < (m : Int) := by omega
    by_cases hlt : k < n
    · have hg : decide (k < n) = true := decide_eq_true hlt
      have e := hxa (by omega)
      subst e
      have r1 := HX.out k hlt
      cases hle : leF (X k) x
      · have HN := Lib.hid (hI_stop hlt HF.out hle)
        have hle' : (FloatKind.f32.format.order (X k) x == some .lt || FloatKind.f32.format.order (X k) x == some .eq) = false := hle
        clear hle
        go_wp2
        go_ret2
        exact ⟨ret_flt2 (by rw [HN.out]), Below.drewN HA2 _⟩
      · have HN := Lib.hid (show ∀ j, j < k + 1 → leF (X j) x = true from fun j hj => by
          by_cases hj' : j < k
          · exact HF.out j hj'
          · rw [show j = k by omega]; exact hle)
        have hle' : (FloatKind.f32.format.order (X k) x == some .lt || FloatKind.f32.format.order (X k) x == some .eq) = true := hle
        clear hle
        go_wp2
        go_roundw
        case rel => exact ⟨k + 1, _, by omega, by go_num, rfl, HN⟩
        case measure => simp [intOf]; omega
    · have hg : decide (k < n) = false := decide_eq_false hlt
      have hkn : k = n := by omega
      have HN := Lib.hid (show hI X x n = k by rw [hkn]; exact hI_end (hkn ▸ HF.out))
      clear hkn
      go_wp2
      go_ret2
      exact ⟨ret_flt2 (by rw [HN.out]), Below.drewN HA2 _⟩
end Go.Proofs.Ytdoaajmojfdjoaa
