
/- Whether steps are valid: as the model asks it, and as the program does. -/
import Derived.Test.YtbblohjldkpcnabSt
import Derived.Deep.QuietTactic
import Derived.Test.YtbblohjldkpcnabFinS
namespace Go.Proofs.Ytbblohjldkpcnab
open Go Go.ChangeShapes Go.WideShapes Go.ChangeAt Go.RowKit

def leF (a b : Nat) : Bool := FloatKind.f32.format.order a b == some .lt || FloatKind.f32.format.order a b == some .eq
def ascL (X : Nat → Nat) (n : Nat) : Bool := (List.range (n - 1)).all fun j => !leF (X (j + 1)) (X j)
theorem asc_no {X : Nat → Nat} {n j : Nat} (hj : j + 1 < n) (h : leF (X (j + 1)) (X j) = true) : ascL X n = false := by
  unfold ascL
  rw [List.all_eq_false]
  exact ⟨j, List.mem_range.2 (by omega), by simp [h]⟩
theorem asc_yes {X : Nat → Nat} {n : Nat} (h : ∀ j, j + 1 < n → leF (X (j + 1)) (X j) = false) : ascL X n = true := by
  unfold ascL
  rw [List.all_eq_true]
  exact fun j hj => by rw [h j (by have := List.mem_range.1 hj; omega)]; rfl
def stepsOk (X : Nat → Nat) (n : Nat) (Y : Nat → Nat) (m : Nat) : Bool := decide (n < 12 ∧ m = n + 1) && finL X n && finL Y m && ascL X n
theorem ok_len {X Y : Nat → Nat} {n m : Nat} (h : ¬ (n < 12 ∧ m = n + 1)) : stepsOk X n Y m = false := by simp only [stepsOk, decide_eq_false h, Bool.false_and]
theorem ok_x {X Y : Nat → Nat} {n m : Nat} (h : finL X n = false) : stepsOk X n Y m = false := by simp [stepsOk, h]
theorem ok_y {X Y : Nat → Nat} {n m : Nat} (h : finL Y m = false) : stepsOk X n Y m = false := by simp [stepsOk, h]
theorem ok_a {X Y : Nat → Nat} {n m : Nat} (h : ascL X n = false) : stepsOk X n Y m = false := by simp [stepsOk, h]
theorem ok_rest {X Y : Nat → Nat} {n m : Nat} (h1 : n < 12) (h2 : m = n + 1) (hx : finL X n = true) (hy : finL Y m = true) : stepsOk X n Y m = ascL X n := by subst h2; simp [stepsOk, h1, hx, hy]
theorem ok_rest2 {X Y : Nat → Nat} {n m : Nat} (h1 : n < 12) (h2 : m = n + 1) (ha : ascL X n = true) (hx : finL X n = true) : stepsOk X n Y m = finL Y m := by subst h2; simp [stepsOk, h1, hx, ha]
set_option maxHeartbeats 3200000 in
theorem l02Is_any (b : Nat) (xa ya : Option Addr) (n m cx cy : Nat) (X Y : Nat → Nat) (w : World) (c0 : w.cell? ⟨b, 0, none⟩ = some (.slice xa n cx)) (c1 : w.cell? ⟨b, 1, none⟩ = some (.slice ya m cy)) (hX : Rd w xa n X) (hY : Rd w ya m Y) (hn : n ≤ 1048576) (hm : m ≤ 1048576) :
    Calls Try.prog 101 #[.pointer (some ⟨b, 0, none⟩)] w fun e w' => e = .returned (.bool (stepsOk X n Y m)) ∧ ∃ q, w' = w.drewN q := by
  by_cases h1 : n < 12
  · have d1 : decide ((12 : Int) ≤ (n : Int)) = false := decide_eq_false (by omega)
    by_cases h2 : m = n + 1
    · have d2 : ((m : Int) != (n : Int) + 1) = false := by simpa using (by omega : (m : Int) = (n : Int) + 1)
      cases hf : finL X n
      · have H := Lib.hid (ok_x (Y := Y) (m := m) hf)
        clear h2
        go_enter Try.func101, Try.ntmps101
        go_wp2_with (go_at_call 115; refine (l02Finite_any _ _ _ X _ hX hn).mono ?_; rintro e w' ⟨rfl, q, rfl⟩)
        go_ret
        exact ⟨ret_bool H.out.symm, _, rfl⟩
      · cases hg : finL Y m
        · have H := Lib.hid (ok_y (X := X) (n := n) hg)
          clear h2
          go_enter Try.func101, Try.ntmps101
          go_wp2_with fail
          refine (l02Finite_any _ _ _ X _ hX hn).mono ?_
          rintro e w' ⟨rfl, q, rfl⟩
          go_wp2_with fail
          refine (l02Finite_any _ _ _ Y _ (by exact hY) hm).mono ?_
          rintro e w' ⟨rfl, q2, rfl⟩
          go_wp2
          go_ret
          exact ⟨ret_bool H.out.symm, _, rfl⟩
        · have H := Lib.hid (ok_rest h1 h2 hf hg)
          have HL := Lib.hid h2
          have hX0 := hX
          obtain ⟨xb, xo, hxa, hcx⟩ := hX0
          have HX := Lib.hid hcx
          clear hcx h2
          go_enter Try.func101, Try.ntmps101
          go_wp2_with fail
          refine (l02Finite_any _ _ _ X _ hX hn).mono ?_
          rintro e w' ⟨rfl, q, rfl⟩
          go_wp2_with fail
          refine (l02Finite_any _ _ _ Y _ (by exact hY) hm).mono ?_
          rintro e w' ⟨rfl, q2, rfl⟩
          clear hX hY
          go_wp2
          go_loopw [4] (fun i wr => ∃ j q : Nat, (j + 1 ≤ n ∨ j = 0) ∧ i = .int .i64 ((j : Int) + 1) ∧ wr = w.drewN q ∧ Hid (∀ k, k < j → leF (X (k + 1)) (X k) = false)) (fun i _ => n + 1 - (intOf i).toNat)
          case atStart => exact ⟨0, _, .inr rfl, rfl, rfl, Lib.hid fun k hk => absurd hk (Nat.not_lt_zero _)⟩
          case round =>
            obtain ⟨j, q3, hj, rfl, rfl, HF⟩ := hrel
            by_cases hlt : j + 1 < n
            · have e := hxa (by omega)
              subst e
              have r1 := HX.out (j + 1) (by omega)
              have r0 := HX.out j (by omega)
              have hlt' : (j : Int) + 1 < (n : Int) := by omega
              cases hle : leF (X (j + 1)) (X j)
              · have HN := Lib.hid (show ∀ k, k < j + 1 → leF (X (k + 1)) (X k) = false from fun k hk => by
                  by_cases hk' : k < j
                  · exact HF.out k hk'
                  · rw [show k = j by omega]; exact hle)
                have hle' : (FloatKind.f32.format.order (X (j + 1)) (X j) == some .lt || FloatKind.f32.format.order (X (j + 1)) (X j) == some .eq) = false := hle
                clear hle
                go_wp2_with fail
                go_quiet (fail)
                go_wp2
                go_roundw
                case rel => exact ⟨j + 1, _, .inl (by omega), by go_num, rfl, HN⟩
                case measure => simp [intOf]; omega
              · have HN := Lib.hid (asc_no hlt hle)
                have hle' : (FloatKind.f32.format.order (X (j + 1)) (X j) == some .lt || FloatKind.f32.format.order (X (j + 1)) (X j) == some .eq) = true := hle
                clear hle
                go_wp2_with fail
                go_quiet (fail)
                go_wp2
                go_ret
                exact ⟨ret_bool (by rw [H.out, HN.out]), q3 + nq, by rw [World.drewN_drewN]⟩
            · have HN := Lib.hid (show ascL X n = true from asc_yes fun k hk => HF.out k (by omega))
              go_wp2
              go_ret
              exact ⟨ret_bool (by rw [H.out, HN.out]), q3, rfl⟩
    · have H := Lib.hid (ok_len (X := X) (Y := Y) (n := n) (m := m) (fun h => h2 h.2))
      have d2 : ((m : Int) != (n : Int) + 1) = true := by simpa using (by omega : ¬ (m : Int) = (n : Int) + 1)
      clear h2
      go_enter Try.func101, Try.ntmps101
      go_wp2
      go_ret
      exact ⟨ret_bool H.out.symm, 0, rfl⟩
  · have d1 : decide ((12 : Int) ≤ (n : Int)) = true := decide_eq_true (by omega)
    have H := Lib.hid (ok_len (X := X) (Y := Y) (n := n) (m := m) (fun h => h1 h.1))
    go_enter Try.func101, Try.ntmps101
    go_wp2
    go_ret
    exact ⟨ret_bool H.out.symm, 0, rfl⟩
set_option maxHeartbeats 3200000 in
theorem implValid_any (xa ya : Option Addr) (n m cx cy : Nat) (X Y : Nat → Nat) (w : World) (hX : Rd w xa n X) (hY : Rd w ya m Y) (hn : n ≤ 1048576) (hm : m ≤ 1048576) :
    Calls Try.prog 102 #[.agg #[.slice xa n cx, .slice ya m cy]] w fun e w' => e = .returned (.bool (stepsOk X n Y m)) ∧ Below w.heap.size w w' := by
  by_cases h1 : n < 12
  · have d1 : decide ((12 : Int) ≤ (n : Int)) = false := decide_eq_false (by omega)
    by_cases h2 : m = n + 1
    · have d2 : ((m : Int) != (n : Int) + 1) = false := by simpa using (by omega : (m : Int) = (n : Int) + 1)
      have HL := Lib.hid h2
      have HA : Below w.heap.size w (w.alloc (.cells #[.slice xa n cx, .slice ya m cy] 62)) := (Below.refl _ _).alloc (Nat.le_refl _) _
      have hXa := hX.alloc (.cells #[.slice xa n cx, .slice ya m cy] 62)
      have hYa := hY.alloc (.cells #[.slice xa n cx, .slice ya m cy] 62)
      have hX0 := hXa
      obtain ⟨xb, xo, hxa, hcx⟩ := hX0
      have HX := Lib.hid hcx
      clear hcx h2
      go_enter Try.func102, Try.ntmps102
      go_wp2
      clear hX hY
      go_loopw [3] (fun i wr => ∃ j q : Nat, (j + 1 ≤ n ∨ j = 0) ∧ i = .int .i64 ((j : Int) + 1) ∧ wr = (w.alloc (.cells #[.slice xa n cx, .slice ya m cy] 62)).drewN q ∧ Hid (∀ k, k < j → leF (X (k + 1)) (X k) = false)) (fun i _ => n + 1 - (intOf i).toNat)
      case atStart => exact ⟨0, 0, .inr rfl, rfl, rfl, Lib.hid fun k hk => absurd hk (Nat.not_lt_zero _)⟩
      case round =>
        obtain ⟨j, q3, hj, rfl, rfl, HF⟩ := hrel
        by_cases hlt : j + 1 < n
        · have e := hxa (by omega)
          subst e
          have r1 := HX.out (j + 1) (by omega)
          have r0 := HX.out j (by omega)
          have hlt' : (j : Int) + 1 < (n : Int) := by omega
          cases hle : leF (X (j + 1)) (X j)
          · have HN := Lib.hid (show ∀ k, k < j + 1 → leF (X (k + 1)) (X k) = false from fun k hk => by
              by_cases hk' : k < j
              · exact HF.out k hk'
              · rw [show k = j by omega]; exact hle)
            have hle' : (FloatKind.f32.format.order (X (j + 1)) (X j) == some .lt || FloatKind.f32.format.order (X (j + 1)) (X j) == some .eq) = false := hle
            clear hle
            go_wp2_with fail
            go_quiet (fail)
            go_wp2
            go_roundw
            case rel => exact ⟨j + 1, _, .inl (by omega), by go_num, rfl, HN⟩
            case measure => simp [intOf]; omega
          · have HN := Lib.hid (asc_no hlt hle)
            have hle' : (FloatKind.f32.format.order (X (j + 1)) (X j) == some .lt || FloatKind.f32.format.order (X (j + 1)) (X j) == some .eq) = true := hle
            clear hle
            go_wp2_with fail
            go_quiet (fail)
            go_wp2
            go_ret
            exact ⟨ret_bool (ok_a HN.out).symm, Below.drewN (Below.drewN HA _) _⟩
        · have ha : ascL X n = true := asc_yes fun k hk => HF.out k (by omega)
          cases hf : finL X n
          · have H := Lib.hid (ok_x (Y := Y) (m := m) hf)
            clear ha
            go_wp2_with (go_at_call 123; refine (allFinite_any _ _ _ X _ (by exact hXa) hn).mono ?_; rintro e w' ⟨rfl, q, rfl⟩)
            go_ret
            exact ⟨ret_bool H.out.symm, Below.drewN HA _⟩
          · have H := Lib.hid (ok_rest2 (Y := Y) h1 HL.out ha hf)
            clear ha
            go_wp2_with fail
            refine (allFinite_any _ _ _ X _ (by exact hXa) hn).mono ?_
            rintro e w' ⟨rfl, q, rfl⟩
            go_wp2_with fail
            refine (allFinite_any _ _ _ Y _ (by exact hYa) hm).mono ?_
            rintro e w' ⟨rfl, q, rfl⟩
            go_wp2
            go_ret
            exact ⟨ret_bool H.out.symm, Below.drewN HA _⟩
    · have H := Lib.hid (ok_len (X := X) (Y := Y) (n := n) (m := m) (fun h => h2 h.2))
      have d2 : ((m : Int) != (n : Int) + 1) = true := by simpa using (by omega : ¬ (m : Int) = (n : Int) + 1)
      clear h2
      go_enter Try.func102, Try.ntmps102
      go_wp2
      go_ret
      exact ⟨ret_bool H.out.symm, (Below.refl _ _).alloc (Nat.le_refl _) _⟩
  · have d1 : decide ((12 : Int) ≤ (n : Int)) = true := decide_eq_true (by omega)
    have H := Lib.hid (ok_len (X := X) (Y := Y) (n := n) (m := m) (fun h => h1 h.1))
    go_enter Try.func102, Try.ntmps102
    go_wp2
    go_ret
    exact ⟨ret_bool H.out.symm, (Below.refl _ _).alloc (Nat.le_refl _) _⟩
end Go.Proofs.Ytbblohjldkpcnab
