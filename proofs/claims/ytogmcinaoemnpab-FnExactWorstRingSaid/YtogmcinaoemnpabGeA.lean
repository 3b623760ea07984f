
/- Numbers that are finite and at least zero: as the program asks it of a row. -/
import Derived.Test.YtogmcinaoemnpabPush
namespace Go.Proofs.Ytogmcinaoemnpab
open Go Go.ChangeShapes Go.WideShapes Go.ChangeAt Go.RowKit

def isG (x : Nat) : Bool := isFin .f32 x && (FloatKind.f32.format.order x 0 == some .gt || FloatKind.f32.format.order x 0 == some .eq)
theorem num_fin {x : Nat} (h : isFin .f32 x = true) : isNaN .f32 x = false := by
  unfold isFin at h
  unfold isNaN
  cases h1 : (FloatKind.f32.decode x).isNaN
  · rfl
  · rw [h1] at h; cases h
theorem geq_of {x y : Nat} (hx : isNaN .f32 x = false) (hy : isNaN .f32 y = false) : (FloatKind.f32.format.order x y == some .gt || FloatKind.f32.format.order x y == some .eq) = !(FloatKind.f32.format.order x y == some .lt) := by
  have : FloatKind.f32.format.order x y ≠ none := by
    unfold Ieee.Format.order
    unfold isNaN FloatKind.decode at hx hy
    cases h1 : FloatKind.f32.format.read x <;> cases h2 : FloatKind.f32.format.read y <;> simp_all [Ieee.Datum.isNaN, Ieee.Datum.order]
  cases ho : FloatKind.f32.format.order x y with
  | none => exact absurd ho this
  | some o => cases o <;> rfl
theorem isG_fin {x : Nat} (h : isFin .f32 x = true) : isG x = !(FloatKind.f32.format.order x 0 == some .lt) := by
  rw [← geq_of (num_fin h) (by decide +kernel)]
  unfold isG
  rw [h]; rfl
theorem isG_no {x : Nat} (h : isFin .f32 x = false) : isG x = false := by unfold isG; rw [h]; rfl
def gL (X : Nat → Nat) (n : Nat) : Bool := (List.range n).all fun i => isG (X i)
def ltZ (x : Nat) : Bool := FloatKind.f32.format.order x 0 == some .lt
theorem gL_fin {X : Nat → Nat} {n : Nat} (h : finL X n = true) : gL X n = (List.range n).all fun i => !ltZ (X i) := by
  have hf := finL_at h
  unfold gL
  rw [Bool.eq_iff_iff, List.all_eq_true, List.all_eq_true]
  have e : ∀ i, i ∈ List.range n → isG (X i) = !ltZ (X i) := fun i hi => isG_fin (hf i (List.mem_range.1 hi))
  exact ⟨fun g i hi => (e i hi).symm.trans (g i hi), fun g i hi => (e i hi).trans (g i hi)⟩
theorem gL_no {X : Nat → Nat} {n : Nat} (h : finL X n = false) : gL X n = false := by
  unfold finL at h
  unfold gL
  rw [List.all_eq_false] at h ⊢
  obtain ⟨i, hi, hx⟩ := h
  exact ⟨i, hi, by rw [isG_no (by simpa using hx)]; simp⟩
theorem areAtLeastZero1_any (x : Nat) (w : World) :
    Calls Try.prog 76 #[.float .f32 x] w fun e w' => e = .returned (.bool (ltZ x)) ∧ w' = w := by
  have H := Lib.hid (show ltZ x = (FloatKind.f32.format.order x 0 == some .lt) from rfl)
  go_enter Try.func76, Try.ntmps76
  go_wp2
  go_ret
  exact ⟨ret_bool H.out.symm, rfl⟩
/-- The index of the first number that is below zero, or -1. -/
def FirstLow (w : World) (X : Nat → Nat) (n : Nat) (e : Ending) (w' : World) : Prop :=
  ∃ r : Int, e = .returned (.int .i64 r) ∧ -1 ≤ r ∧ decide (0 ≤ r) = !((List.range n).all fun i => !ltZ (X i)) ∧ w' = w
theorem low_no {X : Nat → Nat} {n k : Nat} (hk : k < n) (h : ltZ (X k) = true) : ((List.range n).all fun i => !ltZ (X i)) = false := by
  rw [List.all_eq_false]
  exact ⟨k, List.mem_range.2 hk, by simp [h]⟩
theorem low_yes {X : Nat → Nat} {n : Nat} (h : ∀ k, k < n → ltZ (X k) = false) : ((List.range n).all fun i => !ltZ (X i)) = true := by
  rw [List.all_eq_true]
  exact fun k hk => by rw [h k (List.mem_range.1 hk)]; rfl
set_option maxHeartbeats 800000 in
theorem indexLow_any (xa : Option Addr) (n cap : Nat) (X : Nat → Nat) (w : World) (hX : Rd w xa n X) (hn : n ≤ 1048576) :
    Calls Try.prog 87 #[.slice xa n cap, .func (.func 76) #[] #[]] w (FirstLow w X n) := by
  obtain ⟨xb, xo, hxa, hcx⟩ := hX
  have HX := Lib.hid hcx
  clear hcx
  go_enter Try.func87, Try.ntmps87
  go_wp2
  go_loopw [8] (fun i wr => ∃ k : Nat, k ≤ n ∧ i = .int .i64 k ∧ wr = w ∧ Hid (∀ j, j < k → ltZ (X j) = false)) (fun i _ => n - (intOf i).toNat)
  case atStart => exact ⟨0, Nat.zero_le _, rfl, rfl, Lib.hid fun j hj => absurd hj (Nat.not_lt_zero _)⟩
  case round =>
    obtain ⟨k, hk, rfl, rfl, HF⟩ := hrel
    by_cases hlt : k < n
    · have e := hxa (by omega)
      subst e
      have h1 := HX.out k hlt
      cases hf : ltZ (X k)
      · have HN := Lib.hid (show ∀ j, j < k + 1 → ltZ (X j) = false from fun j hj => by
          by_cases hj' : j < k
          · exact HF.out j hj'
          · rw [show j = k by omega]; exact hf)
        go_wp2_with (go_at_call 76; refine (areAtLeastZero1_any _ _).mono ?_; rintro e w' ⟨rfl, rfl⟩)
        go_roundw
        case rel => exact ⟨k + 1, by omega, by go_num, trivial, HN⟩
        case measure => simp [intOf]; omega
      · have HN := Lib.hid (low_no hlt hf)
        go_wp2_with (go_at_call 76; refine (areAtLeastZero1_any _ _).mono ?_; rintro e w' ⟨rfl, rfl⟩)
        go_ret
        exact ⟨k, rfl, by omega, by rw [HN.out]; simp, rfl⟩
    · have hkn : k = n := by omega
      subst hkn
      have HN := Lib.hid (low_yes HF.out)
      go_wp2
      go_ret
      exact ⟨-1, rfl, by omega, by rw [HN.out]; simp, rfl⟩
set_option maxHeartbeats 800000 in
theorem areAtLeastZero_any (xa : Option Addr) (n cap : Nat) (X : Nat → Nat) (w : World) (hX : Rd w xa n X) (hn : n ≤ 1048576) :
    Calls Try.prog 51 #[.slice xa n cap] w fun e w' => e = .returned (.bool (gL X n)) ∧ ∃ m, w' = w.drewN m := by
  cases hf : finL X n
  · have H := Lib.hid (gL_no hf)
    go_enter Try.func51, Try.ntmps51
    go_wp2_with (first | (go_at_call 66; refine (allFinite_any _ _ _ X _ hX hn).mono ?_; rintro e w' ⟨rfl, q, rfl⟩))
    go_ret
    exact ⟨ret_bool H.out.symm, _, rfl⟩
  · have H := Lib.hid (gL_fin hf)
    go_enter Try.func51, Try.ntmps51
    go_wp2_with (first | (go_at_call 66; refine (allFinite_any _ _ _ X _ hX hn).mono ?_; rintro e w' ⟨rfl, q, rfl⟩) | (go_at_call 87; refine (indexLow_any _ _ _ X _ (by exact hX) hn).mono ?_; rintro e w' ⟨r, rfl, hr, hd, rfl⟩) | go_in)
    go_ret
    exact ⟨ret_bool (by first | (rw [H.out]; done) | (rw [H.out]; simp_all)), _, rfl⟩
/-- A row of two numbers that a call has just laid. -/
def duo (a b : Nat) (i : Nat) : Nat := if i = 0 then a else b
theorem gL_two (a b : Nat) : gL (duo a b) 2 = (isG a && isG b) := by simp [gL, duo, List.range_succ]
def three (a b c : Nat) (i : Nat) : Nat := if i = 0 then a else if i = 1 then b else c
theorem gL_one (a : Nat) : gL (fun _ => a) 1 = isG a := by simp [gL, List.range_succ]
theorem finL_two (a b : Nat) : finL (duo a b) 2 = (isFin .f32 a && isFin .f32 b) := by simp [finL, duo, List.range_succ]
theorem rd_two (w : World) (a b : Nat) (t : TypeId) : Rd (w.alloc (.cells #[.float .f32 a, .float .f32 b] t)) (some ⟨w.heap.size, 0, none⟩) 2 (duo a b) := by
  refine ⟨w.heap.size, 0, fun _ => rfl, fun i hi => ?_⟩
  rw [Nat.zero_add, World.cell?_alloc_new]
  rcases (by omega : i = 0 ∨ i = 1) with rfl | rfl <;> rfl
theorem rd_one (w : World) (a : Nat) (t : TypeId) : Rd (w.alloc (.cells #[.float .f32 a] t)) (some ⟨w.heap.size, 0, none⟩) 1 (fun _ => a) := by
  refine ⟨w.heap.size, 0, fun _ => rfl, fun i hi => ?_⟩
  rw [Nat.zero_add, World.cell?_alloc_new]
  obtain rfl : i = 0 := by omega
  rfl
theorem rd_two' (w : World) (a b : Nat) (t : TypeId) {g : Nat} (h : g = w.heap.size) : Rd (w.alloc (.cells #[.float .f32 a, .float .f32 b] t)) (some ⟨g, 0, none⟩) 2 (duo a b) := by
  rw [h]
  exact rd_two w a b t
theorem rd_one' (w : World) (a : Nat) (t : TypeId) {g : Nat} (h : g = w.heap.size) : Rd (w.alloc (.cells #[.float .f32 a] t)) (some ⟨g, 0, none⟩) 1 (fun _ => a) := by
  rw [h]
  exact rd_one w a t
end Go.Proofs.Ytogmcinaoemnpab
