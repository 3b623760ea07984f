
/- Whether steps are the same: as the model asks it, and as the program does. -/
import Derived.Test.YtbblohjldkpcnaaSt
import Derived.Test.YtbblohjldkpcnaaSmA
namespace Go.Proofs.Ytbblohjldkpcnaa
open Go Go.ChangeShapes Go.WideShapes Go.ChangeAt Go.RowKit

def sameS (X : Nat → Nat) (n : Nat) (Y : Nat → Nat) (m : Nat) (X' : Nat → Nat) (n' : Nat) (Y' : Nat → Nat) (m' : Nat) : Bool := sameL X n X' n' && sameL Y m Y' m'
set_option maxRecDepth 100000 in
set_option maxHeartbeats 1600000 in
theorem l02Same_any (b b' : Nat) (xa ya xa' ya' : Option Addr) (n m cx cy n' m' cx' cy' : Nat) (X Y X' Y' : Nat → Nat) (w : World) (c0 : w.cell? ⟨b, 0, none⟩ = some (.slice xa n cx)) (c1 : w.cell? ⟨b, 1, none⟩ = some (.slice ya m cy))
    (d0 : w.cell? ⟨b', 0, none⟩ = some (.slice xa' n' cx')) (d1 : w.cell? ⟨b', 1, none⟩ = some (.slice ya' m' cy')) (hX : Rd w xa n X) (hY : Rd w ya m Y) (hX' : Rd w xa' n' X') (hY' : Rd w ya' m' Y')
    (wX : Wf32 X n) (wY : Wf32 Y m) (wX' : Wf32 X' n') (wY' : Wf32 Y' m') (hn : n ≤ 1048576) (hm : m ≤ 1048576) (hn' : n' ≤ 1048576) (hm' : m' ≤ 1048576) :
    Calls Try.prog 33 #[.pointer (some ⟨b, 0, none⟩), .pointer (some ⟨b', 0, none⟩)] w fun e w' => e = .returned (.bool (sameS X n Y m X' n' Y' m')) ∧ ∃ q, w' = w.drewN q := by
  cases h1 : sameL X n X' n'
  · have k1 := Lib.hid (show ∀ q, Calls Try.prog 35 #[.slice xa n cx, .slice xa' n' cx'] (w.drewN q) fun e w' => e = .returned (.bool false) ∧ ∃ r, w' = (w.drewN q).drewN r from fun q => by
      have := sameAll_any xa xa' n n' cx cx' X X' (w.drewN q) hX hX' wX wX' hn hn'
      rw [h1] at this
      exact this)
    have H := Lib.hid (show sameS X n Y m X' n' Y' m' = false by simp [sameS, h1])
    clear h1 hX hY hX' hY' wX wY wX' wY'
    go_enter Try.func33, Try.ntmps33
    go_wp2_with fail
    go_quiet ((go_at_call 35; exact Calls.quiet_of (k1.out _)))
    go_wp2
    go_ret
    exact ⟨ret_bool H.out.symm, _, rfl⟩
  · have k1 := Lib.hid (show ∀ q, Calls Try.prog 35 #[.slice xa n cx, .slice xa' n' cx'] (w.drewN q) fun e w' => e = .returned (.bool true) ∧ ∃ r, w' = (w.drewN q).drewN r from fun q => by
      have := sameAll_any xa xa' n n' cx cx' X X' (w.drewN q) hX hX' wX wX' hn hn'
      rw [h1] at this
      exact this)
    have k2 := Lib.hid (show ∀ q, Calls Try.prog 35 #[.slice ya m cy, .slice ya' m' cy'] (w.drewN q) fun e w' => e = .returned (.bool (sameL Y m Y' m')) ∧ ∃ r, w' = (w.drewN q).drewN r from fun q => sameAll_any ya ya' m m' cy cy' Y Y' (w.drewN q) hY hY' wY wY' hm hm')
    have H := Lib.hid (show sameS X n Y m X' n' Y' m' = sameL Y m Y' m' by simp [sameS, h1])
    clear h1 hX hY hX' hY' wX wY wX' wY'
    go_enter Try.func33, Try.ntmps33
    go_wp2_with fail
    go_quiet (first | (go_at_call 35; (with_reducible refine Calls.quiet_of (k1.out _))) | (go_at_call 35; (with_reducible refine Calls.quiet_of (k2.out _))))
    go_wp2
    go_ret
    exact ⟨ret_bool H.out.symm, _, rfl⟩
/-- What is told of place i: the bits, or 0 behind the end. -/
def eB (X : Nat → Nat) (n i : Nat) : Int := if i < n then (canon .f32 (X i) : Int) else 0
theorem eB_in {X : Nat → Nat} {n i : Nat} (h : i < n) : eB X n i = (canon .f32 (X i) : Int) := by simp [eB, h]
theorem eB_out {X : Nat → Nat} {n i : Nat} (h : ¬ i < n) : eB X n i = 0 := by simp [eB, h]
set_option maxHeartbeats 1600000 in
theorem bitsAt_any (xa ya : Option Addr) (n m cx cy : Nat) (X Y : Nat → Nat) (i : Nat) (w : World) (hX : Rd w xa n X) (hY : Rd w ya m Y) (wX : Wf32 X n) (wY : Wf32 Y m) (hn : n ≤ 1048576) (hm : m ≤ 1048576) :
    Calls Try.prog 48 #[.agg #[.slice xa n cx, .slice ya m cy], .int .i64 (i : Int)] w fun e w' => e = .returned (.agg #[.int .i64 (eB X n i), .int .i64 (eB Y m i)]) ∧ Below w.heap.size w w' := by
  have HA : Below w.heap.size w (((w.alloc (.cells #[.slice xa n cx, .slice ya m cy] 24)).alloc (.cells #[.int .i64 0, .int .i64 0] 70)).alloc (.cells #[.int .i64 0, .int .i64 0] 70)) :=
    ((((Below.refl _ _).alloc (Nat.le_refl _) _).alloc (by simp) _).alloc (by simp; omega) _)
  obtain ⟨xb, xo, hxa, hcx⟩ := hX
  obtain ⟨yb, yo, hya, hcy⟩ := hY
  by_cases h1 : i < n
  · by_cases h2 : i < m
    · have e := hxa (by omega)
      subst e
      have hxb := World.block_lt_of_cell? w _ (hcx i h1)
      have r1 := (HA.cell (p := ⟨xb, xo + i, none⟩) hxb).trans (hcx i h1)
      have x1 := wX i h1
      have e := hya (by omega)
      subst e
      have hyb := World.block_lt_of_cell? w _ (hcy i h2)
      have r2 := (HA.cell (p := ⟨yb, yo + i, none⟩) hyb).trans (hcy i h2)
      have r3 := fun q u => ((Below.setCell (Below.drewN (Below.refl w.heap.size _) q) (p := ⟨w.heap.size + 1 + 1, 0, none⟩) (by simp; try omega) u).cell (p := ⟨yb, yo + i, none⟩) hyb).trans r2
      have x2 := wY i h2
      have E1 := Lib.hid (eB_in (X := X) h1)
      have E2 := Lib.hid (eB_in (X := Y) h2)
      clear hcx hcy wX wY hxa hya
      go_enter Try.func48, Try.ntmps48
      go_wp2_with (first | (go_at_call 50; (with_reducible refine (BitsOf_any _ _ x1).mono ?_); rintro e w' ⟨rfl, q, rfl⟩) | (go_at_call 50; (with_reducible refine (BitsOf_any _ _ x2).mono ?_); rintro e w' ⟨rfl, q, rfl⟩))
      rw [E1.out, E2.out]
      exact bodyPost_ret (v := .agg #[.int .i64 (canon .f32 (X i) : Int), .int .i64 (canon .f32 (Y i) : Int)]) (by simp [results, Try.results48, go_sem]) rfl ⟨rfl, by repeat (first | exact Below.refl _ _ | refine Below.setCell ?_ (by simp; try omega) _ | refine Below.drewN ?_ _ | refine Below.alloc ?_ (by first | exact Nat.le_refl _ | (simp; try omega)) _)⟩
    · have e := hxa (by omega)
      subst e
      have hxb := World.block_lt_of_cell? w _ (hcx i h1)
      have r1 := (HA.cell (p := ⟨xb, xo + i, none⟩) hxb).trans (hcx i h1)
      have x1 := wX i h1
      have E1 := Lib.hid (eB_in (X := X) h1)
      have E2 := Lib.hid (eB_out (X := Y) h2)
      clear hcx hcy wX wY hxa hya
      go_enter Try.func48, Try.ntmps48
      go_wp2_with (first | (go_at_call 50; (with_reducible refine (BitsOf_any _ _ x1).mono ?_); rintro e w' ⟨rfl, q, rfl⟩))
      rw [E1.out, E2.out]
      exact bodyPost_ret (v := .agg #[.int .i64 (canon .f32 (X i) : Int), .int .i64 0]) (by simp [results, Try.results48, go_sem]) rfl ⟨rfl, by repeat (first | exact Below.refl _ _ | refine Below.setCell ?_ (by simp; try omega) _ | refine Below.drewN ?_ _ | refine Below.alloc ?_ (by first | exact Nat.le_refl _ | (simp; try omega)) _)⟩
  · by_cases h2 : i < m
    · have e := hya (by omega)
      subst e
      have hyb := World.block_lt_of_cell? w _ (hcy i h2)
      have r2 := (HA.cell (p := ⟨yb, yo + i, none⟩) hyb).trans (hcy i h2)
      have r3 := fun q u => ((Below.setCell (Below.drewN (Below.refl w.heap.size _) q) (p := ⟨w.heap.size + 1 + 1, 0, none⟩) (by simp; try omega) u).cell (p := ⟨yb, yo + i, none⟩) hyb).trans r2
      have x2 := wY i h2
      have E1 := Lib.hid (eB_out (X := X) h1)
      have E2 := Lib.hid (eB_in (X := Y) h2)
      clear hcx hcy wX wY hxa hya
      go_enter Try.func48, Try.ntmps48
      go_wp2_with (first | (go_at_call 50; (with_reducible refine (BitsOf_any _ _ x2).mono ?_); rintro e w' ⟨rfl, q, rfl⟩))
      rw [E1.out, E2.out]
      exact bodyPost_ret (v := .agg #[.int .i64 0, .int .i64 (canon .f32 (Y i) : Int)]) (by simp [results, Try.results48, go_sem]) rfl ⟨rfl, by repeat (first | exact Below.refl _ _ | refine Below.setCell ?_ (by simp; try omega) _ | refine Below.drewN ?_ _ | refine Below.alloc ?_ (by first | exact Nat.le_refl _ | (simp; try omega)) _)⟩
    · have E1 := Lib.hid (eB_out (X := X) h1)
      have E2 := Lib.hid (eB_out (X := Y) h2)
      clear hcx hcy wX wY hxa hya
      go_enter Try.func48, Try.ntmps48
      go_wp2
      rw [E1.out, E2.out]
      exact bodyPost_ret (v := .agg #[.int .i64 0, .int .i64 0]) (by simp [results, Try.results48, go_sem]) rfl ⟨rfl, by repeat (first | exact Below.refl _ _ | refine Below.setCell ?_ (by simp; try omega) _ | refine Below.drewN ?_ _ | refine Below.alloc ?_ (by first | exact Nat.le_refl _ | (simp; try omega)) _)⟩
end Go.Proofs.Ytbblohjldkpcnaa
