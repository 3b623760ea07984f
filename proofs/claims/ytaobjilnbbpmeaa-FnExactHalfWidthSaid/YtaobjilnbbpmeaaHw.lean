/- Where a list has fallen to half: as the model tells it, and as the program does. -/
import Derived.Test.YtaobjilnbbpmeaaLt5
import Derived.Test.YtaobjilnbbpmeaaHalf
import Derived.Test.YtaobjilnbbpmeaaHwP
import Derived.Test.YtaobjilnbbpmeaaRo
import Derived.Deep.QuietTactic
import Derived.BigQuiet
import Derived.StillTailTactics
namespace Go.Proofs.Ytaobjilnbbpmeaa
open Go Go.ChangeShapes Go.WideShapes Go.ChangeAt Go.RowKit

def gtF (a b : Nat) : Bool := FloatKind.f32.format.order a b == some .gt
def leF (a b : Nat) : Bool := FloatKind.f32.format.order a b == some .lt || FloatKind.f32.format.order a b == some .eq
theorem le_gt {x y : Nat} (hx : isNaN .f32 x = false) (hy : isNaN .f32 y = false) : leF x y = !gtF x y := by
  have : FloatKind.f32.format.order x y ≠ none := by
    unfold Ieee.Format.order
    unfold isNaN FloatKind.decode at hx hy
    cases h1 : FloatKind.f32.format.read x <;> cases h2 : FloatKind.f32.format.read y <;> simp_all [Ieee.Datum.isNaN, Ieee.Datum.order]
  unfold leF gtF
  cases ho : FloatKind.f32.format.order x y with
  | none => exact absurd ho this
  | some o => cases o <;> rfl
/-- The first index behind i with a number of at most H, or n. -/
def StopR (X : Nat → Nat) (H n i k : Nat) : Prop := i < k ∧ k ≤ n ∧ (∀ j, i < j → j < k → gtF (X j) H = true) ∧ (k < n → gtF (X k) H = false)
theorem stopR_from (X : Nat → Nat) (H n i : Nat) : ∀ f c, c + f = n → i < c → (∀ j, i < j → j < c → gtF (X j) H = true) → ∃ k, StopR X H n i k := by
  intro f
  induction f with
  | zero => intro c hc hi hj; exact ⟨c, hi, by omega, hj, fun h => by omega⟩
  | succ f ih =>
    intro c hc hi hj
    cases hg : gtF (X c) H
    · exact ⟨c, hi, by omega, hj, fun _ => hg⟩
    · exact ih (c + 1) (by omega) (by omega) (fun j h1 h2 => by
        by_cases h : j < c
        · exact hj j h1 h
        · rw [show j = c by omega]; exact hg)
theorem stopR_ex (X : Nat → Nat) (H n i : Nat) (h : i < n) : ∃ k, StopR X H n i k := stopR_from X H n i (n - (i + 1)) (i + 1) (by omega) (by omega) (fun j h1 h2 => by omega)
/-- One more than the first index before i with a number of at most H, or 0. -/
def StopL (X : Nat → Nat) (H i k : Nat) : Prop := k ≤ i ∧ (∀ j, k ≤ j → j < i → gtF (X j) H = true) ∧ (0 < k → gtF (X (k - 1)) H = false)
theorem stopL_from (X : Nat → Nat) (H i : Nat) : ∀ c, c ≤ i → (∀ j, c ≤ j → j < i → gtF (X j) H = true) → ∃ k, StopL X H i k := by
  intro c
  induction c with
  | zero => intro hc hj; exact ⟨0, hc, hj, fun h => by omega⟩
  | succ c ih =>
    intro hc hj
    cases hg : gtF (X c) H
    · exact ⟨c + 1, hc, hj, fun _ => hg⟩
    · exact ih (by omega) (fun j h1 h2 => by
        by_cases h : j = c
        · rw [h]; exact hg
        · exact hj j (by omega) h2)
theorem stopL_ex (X : Nat → Nat) (H i : Nat) : ∃ k, StopL X H i k := stopL_from X H i i (Nat.le_refl _) (fun j h1 h2 => by omega)
def backW (A B C : Nat) : Nat := fbin .quo .f32 (fbin .sub .f32 A B) (fbin .sub .f32 C B)
/-- The place to the right, at the index k; to the left. -/
def placeR (X : Nat → Nat) (H k : Nat) : Nat := fbin .sub .f32 (floatOfInt .f32 (k : Int)) (backW H (X k) (X (k - 1)))
def placeL (X : Nat → Nat) (H k : Nat) : Nat := fbin .add .f32 (floatOfInt .f32 (k : Int)) (backW H (X k) (X (k + 1)))
def HpRet (R : Nat) (ok : Bool) (w : World) (e : Ending) (w' : World) : Prop := ∃ s m, e = .returned (.tuple #[.float .f32 (pick .f32 R s), .bool ok]) ∧ w' = w.drewN m
theorem one_f : floatOfInt .f32 1 = 1065353216 := by decide +kernel
theorem mone_f : floatOfInt .f32 (-1) = 3212836864 := by decide +kernel
theorem wrap_nat (k : Nat) (h : k ≤ 1048576) : IntKind.i64.wrap (k : Int) = (k : Int) := IntWalk.i64_in _ (by omega)
set_option maxRecDepth 100000 in
set_option maxHeartbeats 6400000 in
theorem hpR_any (xa : Option Addr) (N cap : Nat) (X : Nat → Nat) (i k H : Nat) (w : World) (hX : Rd w xa N X) (hn : N ≤ 1048576) (hf : finL X N = true) (hi : i < N) (hH : fbin .mul .f32 1056964608 (X i) = H) (hk : StopR X H N i k) (R : Nat) (ok : Bool) (ho : ok = decide (k < N)) (hR : R = if ok = true then placeR X H k else 0) :
    Calls Try.prog 62 #[.slice xa N cap, .int .i64 (i : Int), .int .i64 1] w (HpRet R ok w) := by
  obtain ⟨k1, k2, k3, k4⟩ := hk
  have hnH : isNaN .f32 H = false := by rw [← hH]; exact nan_mul_fin ⟨_, _, _, read_halfW, by decide⟩ (num_fin (finL_at hf i hi))
  have hh : fbin .quo .f32 (X i) 1073741824 = H := by rw [← half_eq, hH]
  have hpH := fun s => pick_num (s := s) hnH
  have HF := Lib.hid (finL_at hf)
  have HK3 := Lib.hid k3
  have HK4 := Lib.hid k4
  obtain ⟨xb, xo, hxa, hcx⟩ := hX
  have e := hxa (by omega)
  subst e
  have ri := hcx i hi
  have HX := Lib.hid hcx
  have ho' := Lib.hid ho
  have hR' := Lib.hid hR
  have HN := Lib.hid hnH
  have hii : (i : Int) < (N : Int) := by omega
  clear hcx hxa k3 k4 hf ho hR hH hnH
  go_enter Try.func62, Try.ntmps62
  go_wp2_with ((with_reducible refine wpL_fbin ?_); refine ⟨_, _, _, rfl, rfl, rfl, fun s n => ?_⟩)
  go_loopw [9] (fun c wr => ∃ j m : Nat, i < j ∧ j ≤ k ∧ c = .int .i64 j ∧ wr = w.drewN m) (fun c _ => N - (intOf c).toNat)
  case atStart => exact ⟨i + 1, _, by omega, by omega, by go_num, rfl⟩
  case round =>
    obtain ⟨j, m, h1, h2, rfl, rfl⟩ := hrel
    clear ri hh
    have j0 : (0 : Int) ≤ (j : Int) := by omega
    by_cases hlt : j < N
    · have jn : (j : Int) < (N : Int) := by omega
      have rj := HX.out j hlt
      have nj := num_fin (HF.out j hlt)
      by_cases hjk : j < k
      · have hle : leF (X j) H = false := by rw [le_gt nj HN.out, HK3.out j h1 hjk]; rfl
        have hle' : (FloatKind.f32.format.order (X j) H == some .lt || FloatKind.f32.format.order (X j) H == some .eq) = false := hle
        clear hle nj
        go_wp2
        go_roundw
        case rel => exact ⟨j + 1, m, by omega, by omega, by go_num, rfl⟩
        case measure => simp [intOf]; omega
      · obtain rfl : j = k := by omega
        have hle : leF (X j) H = true := by rw [le_gt nj HN.out, HK4.out hlt]; rfl
        have hle' : (FloatKind.f32.format.order (X j) H == some .lt || FloatKind.f32.format.order (X j) H == some .eq) = true := hle
        clear hle nj
        obtain ⟨q, rfl⟩ : ∃ q, j = q + 1 := ⟨j - 1, by omega⟩
        have rq := HX.out q (by omega)
        obtain ⟨A, hA⟩ : ∃ A, fbin .sub .f32 H (X (q + 1)) = A := ⟨_, rfl⟩
        obtain ⟨B, hB⟩ : ∃ B, fbin .sub .f32 (X q) (X (q + 1)) = B := ⟨_, rfl⟩
        have q1 := fun t => run_numop (op := .sub) rfl t _ _ _ hA (by rw [← hA]; exact nan_sub HN.out (HF.out _ hlt))
        have q2 := fun t => run_numop (op := .sub) rfl t _ _ _ hB (by rw [← hB]; exact nan_sub (num_fin (HF.out q (by omega))) (HF.out _ hlt))
        obtain ⟨D, hD⟩ : ∃ D, fbin .quo .f32 A B = D := ⟨_, rfl⟩
        have hm1 : fbin .mul .f32 1065353216 D = D := by rw [← hD]; exact mul_one32 (fbin_lt _ _ _) (fbin_canon _ _ _)
        have hf1 := one_f
        have hw := wrap_nat q (by omega)
        have hpl : placeR X H (q + 1) = fbin .sub .f32 (floatOfInt .f32 ((q : Int) + 1)) D := by rw [placeR, backW, Nat.add_sub_cancel, hA, hB, hD]; rfl
        have HP := Lib.hid hpl
        have jq : (q : Int) < (N : Int) := by omega
        have jq0 : (0 : Int) ≤ (q : Int) := by omega
        have jn1 : (q : Int) + 1 < (N : Int) := by omega
        have jn0 : (0 : Int) ≤ (q : Int) + 1 := by omega
        have tq : ((q : Int) + 1).toNat = q + 1 := by omega
        have hfin : ok = true ∧ R = placeR X H (q + 1) := by
          have e1 : ok = true := by rw [ho'.out, decide_eq_true hlt]
          exact ⟨e1, by rw [hR'.out, e1, if_pos rfl]⟩
        have HQ := Lib.hid hfin
        have hp := fun op => fbin_pick_l op .f32
        have hq := fun op => fbin_pick_r op .f32
        clear hA hB hpl hfin jn j0
        obtain ⟨wz, hwz⟩ : ∃ wz, wz = w.drewN m := ⟨_, rfl⟩
        have rj' : wz.cell? ⟨xb, xo + (q + 1), none⟩ = some (.float .f32 (X (q + 1))) := by rw [hwz]; exact rj
        have rq' : wz.cell? ⟨xb, xo + q, none⟩ = some (.float .f32 (X q)) := by rw [hwz]; exact rq
        rw [← hwz]
        have HWZ := Lib.hid hwz
        clear rj rq hwz
        go_wp2_with fail
        go_still_tail 17, (by kernel_rfl)
        change wpList _ _ _ _ _ wz.drew
        have hEw : wz.drew = wz.drewN 1 := rfl
        rw [hEw]
        clear hEw
        go_wp2_with ((with_reducible refine wpL_fbin ?_); refine ⟨_, _, _, rfl, rfl, rfl, fun s n => ?_⟩)
        go_ret2
        rw [HQ.out.1, HQ.out.2, HP.out]
        exact ⟨_, _, rfl, by rw [HWZ.out, World.drewN_drewN]⟩
    · obtain rfl : j = N := by omega
      obtain rfl : j = k := by omega
      have jn : ((j : Int) < (j : Int)) = False := by simp
      have hfin : ok = false ∧ R = 0 := by
        have e1 : ok = false := by rw [ho'.out, decide_eq_false hlt]
        exact ⟨e1, by rw [hR'.out, e1, if_neg (by simp)]⟩
      have HQ := Lib.hid hfin
      clear hfin
      go_wp2
      go_ret2
      rw [HQ.out.1, HQ.out.2]
      exact ⟨0, m, by rw [pick_nul]; rfl, rfl⟩
end Go.Proofs.Ytaobjilnbbpmeaa
