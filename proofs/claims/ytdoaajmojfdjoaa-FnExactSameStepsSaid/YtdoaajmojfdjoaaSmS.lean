/- Whether steps are the same: as the model asks it, and as the program does. -/
import Derived.Test.YtdoaajmojfdjoaaSt
import Derived.Test.YtdoaajmojfdjoaaBits
import Derived.Deep.QuietTactic
namespace Go.Proofs.Ytdoaajmojfdjoaa
open Go Go.ChangeShapes Go.WideShapes Go.ChangeAt Go.RowKit

def Wf32 (X : Nat → Nat) (n : Nat) : Prop := ∀ i, i < n → X i < 4294967296
def sameL (X : Nat → Nat) (n : Nat) (Y : Nat → Nat) (n' : Nat) : Bool := decide (n = n') && (List.range n).all fun i => canon .f32 (X i) == canon .f32 (Y i)
theorem sameL_len {X Y : Nat → Nat} {n n' : Nat} (h : n ≠ n') : sameL X n Y n' = false := by simp [sameL, h]
theorem sameL_no {X Y : Nat → Nat} {n k : Nat} (hk : k < n) (h : canon .f32 (X k) ≠ canon .f32 (Y k)) : sameL X n Y n = false := by
  have : ((List.range n).all fun i => canon .f32 (X i) == canon .f32 (Y i)) = false := by
    rw [List.all_eq_false]
    exact ⟨k, List.mem_range.2 hk, by simpa using h⟩
  simp [sameL, this]
theorem sameL_yes {X Y : Nat → Nat} {n : Nat} (h : ∀ k, k < n → canon .f32 (X k) = canon .f32 (Y k)) : sameL X n Y n = true := by
  have : ((List.range n).all fun i => canon .f32 (X i) == canon .f32 (Y i)) = true := by
    rw [List.all_eq_true]
    exact fun k hk => by simpa using h k (List.mem_range.1 hk)
  simp [sameL, this]
theorem l01Same_any (x y : Nat) (w : World) (hx : x < 4294967296) (hy : y < 4294967296) : Calls Try.prog 98 #[.float .f32 x, .float .f32 y] w fun e w' => e = .returned (.bool (decide (canon .f32 x = canon .f32 y))) ∧ w' = w := by
  go_enter Try.func98, Try.ntmps98
  go_wp2_with fail
  refine (l01Bits_any _ _ hx).mono ?_
  rintro e w' ⟨rfl, rfl⟩
  go_wp2_with fail
  refine (l01Bits_any _ _ hy).mono ?_
  rintro e w' ⟨rfl, rfl⟩
  go_wp2
  go_ret
  exact ⟨ret_bool (by rw [Bool.eq_iff_iff]; simp; exact ⟨fun h => by exact_mod_cast h, fun h => by rw [h]⟩), rfl⟩
set_option maxHeartbeats 1600000 in
theorem sameAll_any (xa ya : Option Addr) (n n' cx cy : Nat) (X Y : Nat → Nat) (w : World) (hX : Rd w xa n X) (hY : Rd w ya n' Y) (wX : Wf32 X n) (wY : Wf32 Y n') (hn : n ≤ 1048576) (hn' : n' ≤ 1048576) :
    Calls Try.prog 85 #[.slice xa n cx, .slice ya n' cy] w fun e w' => e = .returned (.bool (sameL X n Y n')) ∧ ∃ q, w' = w.drewN q := by
  by_cases hl : n = n'
  · subst hl
    obtain ⟨xb, xo, hxa, hcx⟩ := hX
    obtain ⟨yb, yo, hya, hcy⟩ := hY
    have HX := Lib.hid hcx
    have HY := Lib.hid hcy
    have HW := Lib.hid wX
    have HV := Lib.hid wY
    clear hcx hcy wX wY
    go_enter Try.func85, Try.ntmps85
    go_wp2
    go_loopw [5] (fun i wr => ∃ k q : Nat, k ≤ n ∧ i = .int .i64 k ∧ wr = w.drewN q ∧ Hid (∀ j, j < k → canon .f32 (X j) = canon .f32 (Y j))) (fun i _ => n - (intOf i).toNat)
    case atStart => exact ⟨0, 0, Nat.zero_le _, rfl, rfl, Lib.hid fun j hj => absurd hj (Nat.not_lt_zero _)⟩
    case round =>
      obtain ⟨k, q, hk, rfl, rfl, HF⟩ := hrel
      by_cases hlt : k < n
      · have e := hxa (by omega)
        subst e
        have e := hya (by omega)
        subst e
        have r1 := HX.out k hlt
        have r2 := HY.out k hlt
        have x1 := HW.out k hlt
        have x2 := HV.out k hlt
        by_cases hs : canon .f32 (X k) = canon .f32 (Y k)
        · have HN := Lib.hid (show ∀ j, j < k + 1 → canon .f32 (X j) = canon .f32 (Y j) from fun j hj => by
            by_cases hj' : j < k
            · exact HF.out j hj'
            · rw [show j = k by omega]; exact hs)
          have hd : decide (canon .f32 (X k) = canon .f32 (Y k)) = true := decide_eq_true hs
          clear hs
          go_wp2_with fail
          go_quiet ((go_at_call 98; refine (l01Same_any _ _ _ x1 x2).mono ?_; rintro e w' ⟨rfl, rfl⟩; exact ⟨rfl, _, rfl⟩))
          go_wp2
          go_roundw
          case rel => exact ⟨k + 1, _, by omega, by go_num, rfl, HN⟩
          case measure => simp [intOf]; omega
        · have HN := Lib.hid (sameL_no hlt hs)
          have hd : decide (canon .f32 (X k) = canon .f32 (Y k)) = false := decide_eq_false hs
          clear hs
          go_wp2_with fail
          go_quiet ((go_at_call 98; refine (l01Same_any _ _ _ x1 x2).mono ?_; rintro e w' ⟨rfl, rfl⟩; exact ⟨rfl, _, rfl⟩))
          go_wp2
          go_ret
          exact ⟨ret_bool HN.out.symm, q + nq, by rw [World.drewN_drewN]⟩
      · have hkn : k = n := by omega
        subst hkn
        have HN := Lib.hid (sameL_yes HF.out)
        go_wp2
        go_ret
        exact ⟨ret_bool HN.out.symm, q, rfl⟩
  · have HN := Lib.hid (sameL_len (X := X) (Y := Y) hl)
    have d1 : ((n : Int) != (n' : Int)) = true := by simpa using (by omega : ¬ (n : Int) = (n' : Int))
    have d2 : (n != n') = true := by simpa using hl
    go_enter Try.func85, Try.ntmps85
    go_wp2
    go_ret
    exact ⟨ret_bool HN.out.symm, 0, rfl⟩
def sameS (X : Nat → Nat) (n : Nat) (Y : Nat → Nat) (m : Nat) (X' : Nat → Nat) (n' : Nat) (Y' : Nat → Nat) (m' : Nat) : Bool := sameL X n X' n' && sameL Y m Y' m'
set_option maxRecDepth 100000 in
set_option maxHeartbeats 1600000 in
theorem l02Same_any (b b' : Nat) (xa ya xa' ya' : Option Addr) (n m cx cy n' m' cx' cy' : Nat) (X Y X' Y' : Nat → Nat) (w : World) (c0 : w.cell? ⟨b, 0, none⟩ = some (.slice xa n cx)) (c1 : w.cell? ⟨b, 1, none⟩ = some (.slice ya m cy))
    (d0 : w.cell? ⟨b', 0, none⟩ = some (.slice xa' n' cx')) (d1 : w.cell? ⟨b', 1, none⟩ = some (.slice ya' m' cy')) (hX : Rd w xa n X) (hY : Rd w ya m Y) (hX' : Rd w xa' n' X') (hY' : Rd w ya' m' Y')
    (wX : Wf32 X n) (wY : Wf32 Y m) (wX' : Wf32 X' n') (wY' : Wf32 Y' m') (hn : n ≤ 1048576) (hm : m ≤ 1048576) (hn' : n' ≤ 1048576) (hm' : m' ≤ 1048576) :
    Calls Try.prog 52 #[.pointer (some ⟨b, 0, none⟩), .pointer (some ⟨b', 0, none⟩)] w fun e w' => e = .returned (.bool (sameS X n Y m X' n' Y' m')) ∧ ∃ q, w' = w.drewN q := by
  cases h1 : sameL X n X' n'
  · have k1 := Lib.hid (show ∀ q, Calls Try.prog 85 #[.slice xa n cx, .slice xa' n' cx'] (w.drewN q) fun e w' => e = .returned (.bool false) ∧ ∃ r, w' = (w.drewN q).drewN r from fun q => by
      have := sameAll_any xa xa' n n' cx cx' X X' (w.drewN q) hX hX' wX wX' hn hn'
      rw [h1] at this
      exact this)
    have H := Lib.hid (show sameS X n Y m X' n' Y' m' = false by simp [sameS, h1])
    clear h1 hX hY hX' hY' wX wY wX' wY'
    go_enter Try.func52, Try.ntmps52
    go_wp2_with fail
    go_quiet ((go_at_call 85; exact Calls.quiet_of (k1.out _)))
    go_wp2
    go_ret
    exact ⟨ret_bool H.out.symm, _, rfl⟩
  · have k1 := Lib.hid (show ∀ q, Calls Try.prog 85 #[.slice xa n cx, .slice xa' n' cx'] (w.drewN q) fun e w' => e = .returned (.bool true) ∧ ∃ r, w' = (w.drewN q).drewN r from fun q => by
      have := sameAll_any xa xa' n n' cx cx' X X' (w.drewN q) hX hX' wX wX' hn hn'
      rw [h1] at this
      exact this)
    have k2 := Lib.hid (show ∀ q, Calls Try.prog 85 #[.slice ya m cy, .slice ya' m' cy'] (w.drewN q) fun e w' => e = .returned (.bool (sameL Y m Y' m')) ∧ ∃ r, w' = (w.drewN q).drewN r from fun q => sameAll_any ya ya' m m' cy cy' Y Y' (w.drewN q) hY hY' wY wY' hm hm')
    have H := Lib.hid (show sameS X n Y m X' n' Y' m' = sameL Y m Y' m' by simp [sameS, h1])
    clear h1 hX hY hX' hY' wX wY wX' wY'
    go_enter Try.func52, Try.ntmps52
    go_wp2_with fail
    go_quiet (first | (go_at_call 85; (with_reducible refine Calls.quiet_of (k1.out _))) | (go_at_call 85; (with_reducible refine Calls.quiet_of (k2.out _))))
    go_wp2
    go_ret
    exact ⟨ret_bool H.out.symm, _, rfl⟩
theorem specSameS_any (xa ya xa' ya' : Option Addr) (n m cx cy n' m' cx' cy' : Nat) (X Y X' Y' : Nat → Nat) (w : World) (hX : Rd w xa n X) (hY : Rd w ya m Y) (hX' : Rd w xa' n' X') (hY' : Rd w ya' m' Y')
    (wX : Wf32 X n) (wY : Wf32 Y m) (wX' : Wf32 X' n') (wY' : Wf32 Y' m') (hn : n ≤ 1048576) (hm : m ≤ 1048576) (hn' : n' ≤ 1048576) (hm' : m' ≤ 1048576) :
    Calls Try.prog 20 #[.agg #[.slice xa n cx, .slice ya m cy], .agg #[.slice xa' n' cx', .slice ya' m' cy']] w fun e w' => e = .returned (.bool (sameS X n Y m X' n' Y' m')) ∧ Below w.heap.size w w' := by
  go_enter Try.func20, Try.ntmps20
  go_wp2_with fail
  refine (l02Same_any _ _ xa ya xa' ya' n m cx cy n' m' cx' cy' X Y X' Y' _ (by simp) (by simp) (by simp) (by simp) ((hX.alloc _).alloc _) ((hY.alloc _).alloc _) ((hX'.alloc _).alloc _) ((hY'.alloc _).alloc _) wX wY wX' wY' hn hm hn' hm').mono ?_
  rintro e w' ⟨rfl, q, rfl⟩
  go_wp2
  go_ret
  exact ⟨rfl, Below.drewN (((Below.refl _ _).alloc (Nat.le_refl _) _).alloc (by simp) _) _⟩
/-- What is told of place i: the bits, or 0 behind the end. -/
def eB (X : Nat → Nat) (n i : Nat) : Int := if i < n then (canon .f32 (X i) : Int) else 0
theorem eB_in {X : Nat → Nat} {n i : Nat} (h : i < n) : eB X n i = (canon .f32 (X i) : Int) := by simp [eB, h]
theorem eB_out {X : Nat → Nat} {n i : Nat} (h : ¬ i < n) : eB X n i = 0 := by simp [eB, h]
set_option maxHeartbeats 1600000 in
theorem bitsAt_any (xa ya : Option Addr) (n m cx cy : Nat) (X Y : Nat → Nat) (i : Nat) (w : World) (hX : Rd w xa n X) (hY : Rd w ya m Y) (wX : Wf32 X n) (wY : Wf32 Y m) (hn : n ≤ 1048576) (hm : m ≤ 1048576) :
    Calls Try.prog 53 #[.agg #[.slice xa n cx, .slice ya m cy], .int .i64 (i : Int)] w fun e w' => e = .returned (.agg #[.int .i64 (eB X n i), .int .i64 (eB Y m i)]) ∧ Below w.heap.size w w' := by
  have HA : Below w.heap.size w (((w.alloc (.cells #[.slice xa n cx, .slice ya m cy] 27)).alloc (.cells #[.int .i64 0, .int .i64 0] 64)).alloc (.cells #[.int .i64 0, .int .i64 0] 64)) :=
    ((((Below.refl _ _).alloc (Nat.le_refl _) _).alloc (by simp) _).alloc (by simp; omega) _)
  obtain ⟨xb, xo, hxa, hcx⟩ := hX
  obtain ⟨yb, yo, hya, hcy⟩ := hY
  by_cases h1 : i < n
  · by_cases h2 : i < m
    · have e := hxa (by omega)
      subst e
      have hxb := World.block_lt_of_cell? w _ (hcx i h1)
      have r1 := (HA.cell (p := ⟨xb, xo + i, none⟩) hxb).trans (hcx i h1)
      have x1 := wX i h1
      have e := hya (by omega)
      subst e
      have hyb := World.block_lt_of_cell? w _ (hcy i h2)
      have r2 := (HA.cell (p := ⟨yb, yo + i, none⟩) hyb).trans (hcy i h2)
      have r3 := fun q u => ((Below.setCell (Below.drewN (Below.refl w.heap.size _) q) (p := ⟨w.heap.size + 1 + 1, 0, none⟩) (by simp; try omega) u).cell (p := ⟨yb, yo + i, none⟩) hyb).trans r2
      have x2 := wY i h2
      have E1 := Lib.hid (eB_in (X := X) h1)
      have E2 := Lib.hid (eB_in (X := Y) h2)
      clear hcx hcy wX wY hxa hya
      go_enter Try.func53, Try.ntmps53
      go_wp2_with (first | (go_at_call 86; (with_reducible refine (BitsOf_any _ _ x1).mono ?_); rintro e w' ⟨rfl, q, rfl⟩) | (go_at_call 86; (with_reducible refine (BitsOf_any _ _ x2).mono ?_); rintro e w' ⟨rfl, q, rfl⟩))
      rw [E1.out, E2.out]
      exact bodyPost_ret (v := .agg #[.int .i64 (canon .f32 (X i) : Int), .int .i64 (canon .f32 (Y i) : Int)]) (by simp [results, Try.results53, go_sem]) rfl ⟨rfl, by repeat (first | exact Below.refl _ _ | refine Below.setCell ?_ (by simp; try omega) _ | refine Below.drewN ?_ _ | refine Below.alloc ?_ (by first | exact Nat.le_refl _ | (simp; try omega)) _)⟩
    · have e := hxa (by omega)
      subst e
      have hxb := World.block_lt_of_cell? w _ (hcx i h1)
      have r1 := (HA.cell (p := ⟨xb, xo + i, none⟩) hxb).trans (hcx i h1)
      have x1 := wX i h1
      have E1 := Lib.hid (eB_in (X := X) h1)
      have E2 := Lib.hid (eB_out (X := Y) h2)
      clear hcx hcy wX wY hxa hya
      go_enter Try.func53, Try.ntmps53
      go_wp2_with (first | (go_at_call 86; (with_reducible refine (BitsOf_any _ _ x1).mono ?_); rintro e w' ⟨rfl, q, rfl⟩))
      rw [E1.out, E2.out]
      exact bodyPost_ret (v := .agg #[.int .i64 (canon .f32 (X i) : Int), .int .i64 0]) (by simp [results, Try.results53, go_sem]) rfl ⟨rfl, by repeat (first | exact Below.refl _ _ | refine Below.setCell ?_ (by simp; try omega) _ | refine Below.drewN ?_ _ | refine Below.alloc ?_ (by first | exact Nat.le_refl _ | (simp; try omega)) _)⟩
  · by_cases h2 : i < m
    · have e := hya (by omega)
      subst e
      have hyb := World.block_lt_of_cell? w _ (hcy i h2)
      have r2 := (HA.cell (p := ⟨yb, yo + i, none⟩) hyb).trans (hcy i h2)
      have r3 := fun q u => ((Below.setCell (Below.drewN (Below.refl w.heap.size _) q) (p := ⟨w.heap.size + 1 + 1, 0, none⟩) (by simp; try omega) u).cell (p := ⟨yb, yo + i, none⟩) hyb).trans r2
      have x2 := wY i h2
      have E1 := Lib.hid (eB_out (X := X) h1)
      have E2 := Lib.hid (eB_in (X := Y) h2)
      clear hcx hcy wX wY hxa hya
      go_enter Try.func53, Try.ntmps53
      go_wp2_with (first | (go_at_call 86; (with_reducible refine (BitsOf_any _ _ x2).mono ?_); rintro e w' ⟨rfl, q, rfl⟩))
      rw [E1.out, E2.out]
      exact bodyPost_ret (v := .agg #[.int .i64 0, .int .i64 (canon .f32 (Y i) : Int)]) (by simp [results, Try.results53, go_sem]) rfl ⟨rfl, by repeat (first | exact Below.refl _ _ | refine Below.setCell ?_ (by simp; try omega) _ | refine Below.drewN ?_ _ | refine Below.alloc ?_ (by first | exact Nat.le_refl _ | (simp; try omega)) _)⟩
    · have E1 := Lib.hid (eB_out (X := X) h1)
      have E2 := Lib.hid (eB_out (X := Y) h2)
      clear hcx hcy wX wY hxa hya
      go_enter Try.func53, Try.ntmps53
      go_wp2
      rw [E1.out, E2.out]
      exact bodyPost_ret (v := .agg #[.int .i64 0, .int .i64 0]) (by simp [results, Try.results53, go_sem]) rfl ⟨rfl, by repeat (first | exact Below.refl _ _ | refine Below.setCell ?_ (by simp; try omega) _ | refine Below.drewN ?_ _ | refine Below.alloc ?_ (by first | exact Nat.le_refl _ | (simp; try omega)) _)⟩
end Go.Proofs.Ytdoaajmojfdjoaa
