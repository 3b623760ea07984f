/- Of any lamps the program tells the nearest line just where the model does, and the same; the lists are not changed: for all arguments. -/
import Derived.Test.YtfnapaijfdiflaaSame
import Derived.Test.YtfnapaijfdiflaaPrs
import Derived.Test.YtfnapaijfdiflaaGeA
import Derived.Test.YtfnapaijfdiflaaNu5
import Derived.Test.YtfnapaijfdiflaaSm6
import Derived.Test.YtfnapaijfdiflaaLiC
import Derived.Test.YtfnapaijfdiflaaFlG
import Derived.Test.YtfnapaijfdiflaaLaw
import Derived.OwnWalk
namespace Go.Proofs.Ytfnapaijfdiflaa
open Go Go.ChangeShapes Go.WideShapes Go.ChangeAt Go.RowKit

def meanW (X : Nat → Nat) (n : Nat) : Nat := fbin .quo .f32 (sumW X n) (floatOfInt .f32 n)
def abvW (X Y : Nat → Nat) (x y : Nat) : Nat → Nat
  | 0 => 0
  | k + 1 => fbin .add .f32 (abvW X Y x y k) (fbin .mul .f32 (fbin .sub .f32 (X k) x) (fbin .sub .f32 (Y k) y))
def belW (X : Nat → Nat) (x : Nat) : Nat → Nat
  | 0 => 0
  | k + 1 => fbin .add .f32 (belW X x k) (fbin .mul .f32 (fbin .sub .f32 (X k) x) (fbin .sub .f32 (X k) x))
theorem quo_zero {A B : Nat} (h : (FloatKind.f32.format.order B 0 == some .eq) = true) : isFin .f32 (fbin .quo .f32 A B) = false := by
  have h0 : FloatKind.f32.format.read 0 = .number false 0 (-149) := by decide +kernel
  have hB : ∃ s e, FloatKind.f32.format.read B = .number s 0 e := by
    unfold Ieee.Format.order at h
    rw [h0] at h
    cases hr : FloatKind.f32.format.read B with
    | nan s t => rw [hr] at h; cases h
    | infinity s => rw [hr] at h; cases s <;> cases h
    | number s m e =>
      refine ⟨s, e, ?_⟩
      rw [hr] at h
      simp only [Ieee.Datum.order] at h
      have hc : compare (Ieee.signed s m (e - min e (-149)).toNat) (Ieee.signed false 0 (-149 - min e (-149)).toNat) = .eq := by simpa using h
      rw [Int.compare_eq_eq] at hc
      have h2 := Nat.two_pow_pos (e - min e (-149)).toNat
      have hz : m = 0 := by
        simp only [Ieee.signed, Nat.zero_shiftLeft] at hc
        rw [Nat.shiftLeft_eq] at hc
        by_cases hm : m = 0
        · exact hm
        · exfalso
          have h3 : 0 < m * 2 ^ (e - min e (-149)).toNat := Nat.mul_pos (by omega) h2
          obtain ⟨P, hP⟩ : ∃ P, P = m * 2 ^ (e - min e (-149)).toNat := ⟨_, rfl⟩
          rw [← hP] at hc h3
          cases s <;> simp at hc <;> omega
      rw [hz]
  obtain ⟨s, e, hr⟩ := hB
  have hf : fbin .quo .f32 A B = (((FloatKind.f32.format.read A).quotient 25 (FloatKind.f32.format.read B)).map FloatKind.f32.format.write).getD (qnan .f32) := rfl
  rw [hf, hr]
  cases ha : FloatKind.f32.format.read A with
  | nan t u => exact (by decide +kernel : isFin .f32 (qnan .f32) = false)
  | infinity t =>
    show isFin .f32 (FloatKind.f32.format.write (.infinity (t ^^ s))) = false
    cases (t ^^ s) <;> decide +kernel
  | number t m i =>
    by_cases hm : m = 0
    · subst hm
      exact (by decide +kernel : isFin .f32 (qnan .f32) = false)
    · simp only [Ieee.Datum.quotient, hm, if_true, if_false]
      show isFin .f32 (FloatKind.f32.format.write (.infinity (t ^^ s))) = false
      cases (t ^^ s) <;> decide +kernel
def lmlS (X Y : Nat → Nat) (n : Nat) : Nat := fbin .quo .f32 (abvW X Y (meanW X n) (meanW Y n) n) (belW X (meanW X n) n)
def lmlB (X Y : Nat → Nat) (n : Nat) : Nat := fbin .sub .f32 (meanW Y n) (fbin .mul .f32 (lmlS X Y n) (meanW X n))
/-- What is told of LampLine. -/
def RetLampLine (r0 : Nat) (r1 : Nat) (r2 : Bool) (w : World) (e : Ending) (w' : World) : Prop := ∃ (s0 : Nat) (s1 : Nat), e = .returned (.tuple #[.float .f32 (pick .f32 r0 s0), .float .f32 (pick .f32 r1 s1), .bool r2]) ∧ Below w.heap.size w w'
theorem lmlNo {w w' : World} (hb : Below w.heap.size w w') : RetLampLine 0 0 false w (.returned (.tuple #[.float .f32 0, .float .f32 0, .bool false])) w' :=
  ⟨0, 0, by rw [pick_zero], hb⟩
/-- What both tell of a slope and a base. -/
def LmlIs (S B r0 r1 : Nat) (ok : Bool) : Prop := ok = (isFin .f32 S && isFin .f32 B) ∧ r0 = (if ok = true then B else 0) ∧ r1 = if ok = true then S else 0
theorem LmlIs.no {S B r0 r1 : Nat} {ok : Bool} (h : LmlIs S B r0 r1 ok) (hf : (isFin .f32 S && isFin .f32 B) = false) {w w' : World} (hb : Below w.heap.size w w') : RetLampLine r0 r1 ok w (.returned (.tuple #[.float .f32 0, .float .f32 0, .bool false])) w' := by
  obtain ⟨rfl, rfl, rfl⟩ := h
  rw [hf, if_neg (by simp), if_neg (by simp)]
  exact lmlNo hb
theorem LmlIs.yes {S B r0 r1 : Nat} {ok : Bool} (h : LmlIs S B r0 r1 ok) (hf : (isFin .f32 S && isFin .f32 B) = true) {w w' : World} (s t : Nat) (hb : Below w.heap.size w w') : RetLampLine r0 r1 ok w (.returned (.tuple #[.float .f32 (pick .f32 B s), .float .f32 (pick .f32 S t), .bool true])) w' := by
  obtain ⟨rfl, rfl, rfl⟩ := h
  rw [hf, if_pos rfl, if_pos rfl]
  exact ⟨s, t, rfl, hb⟩
set_option maxHeartbeats 1600000 in
theorem meanOf_any (xa : Option Addr) (n cx : Nat) (X : Nat → Nat) (w : World) (hX : Rd w xa n X) (hn : n ≤ 256) (M : Nat) (hM : Hid (M = meanW X n)) :
    Calls Try.prog 72 #[.slice xa n cx] w (FltRet M w) := by
  have HT := Lib.hid (SumNumbers_any xa n cx X w hX hn)
  obtain ⟨S, hS⟩ : ∃ S, S = sumW X n := ⟨_, rfl⟩
  rw [← hS] at HT
  have hq := fun op => fbin_pick_l op .f32
  have eM : fbin .quo .f32 S (floatOfInt .f32 n) = M := by rw [hS]; exact hM.out.symm
  clear hS hM hX
  go_enter Try.func72, Try.ntmps72
  go_wp2_with (first | ((with_reducible refine wpL_fbin ?_); refine ⟨_, _, _, rfl, rfl, rfl, fun s n => ?_⟩) | (go_at_call 62; refine HT.out.mono ?_; rintro e w' ⟨s, m, rfl, rfl⟩))
  go_ret
  exact ⟨_, _, rfl, rfl⟩
set_option maxRecDepth 100000 in
set_option maxHeartbeats 6400000 in
theorem implLml_any (xa ya : Option Addr) (n m cx cy : Nat) (X Y : Nat → Nat) (w : World) (hX : Rd w xa n X) (hY : Rd w ya m Y) (hn : n ≤ 1048576) (hm : m ≤ 1048576) (k : Bool) (hk : k = prsB X Y n m 2 16) (r0 r1 : Nat) (ok : Bool) (S B : Nat) (hS : Hid (S = lmlS X Y n)) (hB : Hid (B = lmlB X Y n)) (hr : Hid (if k = true then LmlIs S B r0 r1 ok else r0 = 0 ∧ r1 = 0 ∧ ok = false)) :
    Calls Try.prog 31 #[.slice xa n cx, .slice ya m cy] w (RetLampLine r0 r1 ok w) := by
  have HP := Lib.hid (arePairs_any xa ya n m cx cy X Y 2 16 w hX hY hn hm)
  rw [← hk] at HP
  cases k
  · have hr' := hr.out
    rw [if_neg (by simp)] at hr'
    obtain ⟨rfl, rfl, rfl⟩ := hr'
    clear hr hk hS hB
    go_enter Try.func31, Try.ntmps31
    go_wp2_with (go_at_call 68; refine HP.out.mono ?_; rintro e w' ⟨rfl, q, rfl⟩)
    go_ret3
    refine lmlNo ?_
    (repeat (first | with_reducible exact Below.refl _ _ | with_reducible refine Below.drewN ?_ _ | with_reducible refine Below.setCell ?_ (by simp; try omega) _ | with_reducible refine Below.alloc ?_ (by simp; try omega) _))
  · obtain ⟨p1, p2, rfl, p4, p5⟩ := prsB_at hk.symm
    have HI : LmlIs S B r0 r1 ok := by have := hr.out; rwa [if_pos rfl] at this
    have HI := Lib.hid HI
    obtain ⟨x, hx⟩ : ∃ x, x = meanW X m := ⟨_, rfl⟩
    obtain ⟨y, hy⟩ : ∃ y, y = meanW Y m := ⟨_, rfl⟩
    have HMX := Lib.hid (fun w hX => meanOf_any xa m cx X w hX (by omega) x (Lib.hid hx))
    have HMY := Lib.hid (fun w hX => meanOf_any ya m cy Y w hX (by omega) y (Lib.hid hy))
    have HX := Lib.hid hX
    have HY := Lib.hid hY
    obtain ⟨xb, xo, hxa, hcx⟩ := hX
    obtain ⟨yb, yo, hya, hcy⟩ := hY
    have e := hxa (by omega)
    subst e
    have e := hya (by omega)
    subst e
    have CX := Lib.hid hcx
    have CY := Lib.hid hcy
    have eS : fbin .quo .f32 (abvW X Y x y m) (belW X x m) = S := by rw [hx, hy]; exact hS.out.symm
    have eB : fbin .sub .f32 y (fbin .mul .f32 S x) = B := by rw [hx, hy, hS.out]; exact hB.out.symm
    have HES := Lib.hid eS
    have hp := fun op => fbin_pick_l op .f32
    have hq := fun op => fbin_pick_r op .f32
    clear hcx hcy hxa hya hk hr hS hB hx hy eS
    go_enter Try.func31, Try.ntmps31
    go_wp2_with fail
    refine HP.out.mono ?_
    rintro e w' ⟨rfl, q1, rfl⟩
    go_wp2_with (fail)
    refine (HMX.out _ (by exact HX.out)).mono ?_
    rintro e w' ⟨tx, q2, rfl, rfl⟩
    go_wp2_with (fail)
    refine (HMY.out _ (by exact HY.out)).mono ?_
    rintro e w' ⟨ty, q3, rfl, rfl⟩
    go_wp2_with (fail)
    clear HX HY HMX HMY HP
    go_loopw [9, 10, 26] (fun a b i wr => ∃ k d s1 s2 : Nat, k ≤ m ∧ i = .int .i64 k ∧ wr = w.drewN d ∧ a = .float .f32 (pick .f32 (abvW X Y x y k) s1) ∧ b = .float .f32 (pick .f32 (belW X x k) s2)) (fun _ _ i _ => m - (intOf i).toNat)
    case atStart => exact ⟨0, _, 0, 0, Nat.zero_le _, rfl, rfl, by rw [show abvW X Y x y 0 = 0 from rfl, pick_zero], by rw [show belW X x 0 = 0 from rfl, pick_zero]⟩
    case round =>
      obtain ⟨k, d, s1, s2, hk, rfl, rfl, rfl, rfl⟩ := hrel
      by_cases hlt : k < m
      · have c1 := CX.out k hlt
        have c2 := CY.out k hlt
        obtain ⟨U, hU⟩ : ∃ U, U = abvW X Y x y k := ⟨_, rfl⟩
        obtain ⟨V, hV⟩ : ∃ V, V = belW X x k := ⟨_, rfl⟩
        have e1 : fbin .add .f32 U (fbin .mul .f32 (fbin .sub .f32 (X k) x) (fbin .sub .f32 (Y k) y)) = abvW X Y x y (k + 1) := by rw [hU]; rfl
        have e2 : fbin .add .f32 V (fbin .mul .f32 (fbin .sub .f32 (X k) x) (fbin .sub .f32 (X k) x)) = belW X x (k + 1) := by rw [hV]; rfl
        have E1 := Lib.hid e1
        have E2 := Lib.hid e2
        rw [← hU, ← hV]
        clear e1 e2 hU hV
        go_wp2_with (first | ((with_reducible refine wpL_fbin ?_); refine ⟨_, _, _, rfl, rfl, rfl, fun s n => ?_⟩) | ((with_reducible refine wpL_fsame ?_); refine ⟨_, _, rfl, Option.isSome_iff_exists.2 ⟨_, Try.underlying22⟩, Try.underlying22, ?_⟩))
        go_roundw
        case rel => exact ⟨k + 1, _, _, _, by omega, by go_num, rfl, by rw [E1.out], by rw [E2.out]⟩
        case measure => simp [intOf]; omega
      · have hkn : k = m := by omega
        subst hkn
        obtain ⟨U, hU⟩ : ∃ U, U = abvW X Y x y k := ⟨_, rfl⟩
        obtain ⟨V, hV⟩ : ∃ V, V = belW X x k := ⟨_, rfl⟩
        have eS : fbin .quo .f32 U V = S := by rw [hU, hV]; exact HES.out
        rw [← hU, ← hV]
        clear hU hV
        obtain ⟨c, hc⟩ : ∃ c, c = (isFin .f32 S && isFin .f32 B) := ⟨_, rfl⟩
        have hfl : ∀ s t, finL (duo (pick .f32 B s) (pick .f32 S t)) 2 = c := fun s t => by rw [finL_two, isFin_pick, isFin_pick, hc, Bool.and_comm]
        have HC := Lib.hid hc
        clear hc
        cases c
        · have HN := Lib.hid (fun w' hb => HI.out.no HC.out.symm (w := w) (w' := w') hb)
          go_wp2_with (first | ((with_reducible refine wpL_fbin ?_); refine ⟨_, _, _, rfl, rfl, rfl, fun s n => ?_⟩) | (go_at_call 73; refine (allFinite_any _ _ _ (duo _ _) _ (by exact rd_two' _ _ _ _ (by simp)) (by omega)).mono ?_; rintro e w' ⟨rfl, q, rfl⟩) | ((with_reducible refine wpL_fsame ?_); refine ⟨_, _, rfl, Option.isSome_iff_exists.2 ⟨_, Try.underlying22⟩, Try.underlying22, ?_⟩))
          go_ret3
          refine HN.out _ ?_
          (repeat (first | with_reducible exact Below.refl _ _ | with_reducible refine Below.drewN ?_ _ | with_reducible refine Below.setCell ?_ (by simp; try omega) _ | with_reducible refine Below.alloc ?_ (by simp; try omega) _))
        · have HN := Lib.hid (fun s t w' hb => HI.out.yes HC.out.symm (w := w) (w' := w') s t hb)
          go_wp2_with (first | ((with_reducible refine wpL_fbin ?_); refine ⟨_, _, _, rfl, rfl, rfl, fun s n => ?_⟩) | (go_at_call 73; refine (allFinite_any _ _ _ (duo _ _) _ (by exact rd_two' _ _ _ _ (by simp)) (by omega)).mono ?_; rintro e w' ⟨rfl, q, rfl⟩) | ((with_reducible refine wpL_fsame ?_); refine ⟨_, _, rfl, Option.isSome_iff_exists.2 ⟨_, Try.underlying22⟩, Try.underlying22, ?_⟩))
          go_ret3
          refine HN.out _ _ _ ?_
          (repeat (first | with_reducible exact Below.refl _ _ | with_reducible refine Below.drewN ?_ _ | with_reducible refine Below.setCell ?_ (by simp; try omega) _ | with_reducible refine Below.alloc ?_ (by simp; try omega) _))
set_option maxRecDepth 100000 in
set_option maxHeartbeats 6400000 in
theorem specLml_any (xa ya : Option Addr) (n m cx cy : Nat) (X Y : Nat → Nat) (w : World) (hX : Rd w xa n X) (hY : Rd w ya m Y) (hn : n ≤ 1048576) (hm : m ≤ 1048576) (k : Bool) (hk : k = prsB X Y n m 2 16) (r0 r1 : Nat) (ok : Bool) (S B : Nat) (hS : Hid (S = lmlS X Y n)) (hB : Hid (B = lmlB X Y n)) (hr : Hid (if k = true then LmlIs S B r0 r1 ok else r0 = 0 ∧ r1 = 0 ∧ ok = false)) :
    Calls Try.prog 30 #[.slice xa n cx, .slice ya m cy] w (RetLampLine r0 r1 ok w) := by
  have HP := Lib.hid (l06Lamps_any xa ya n m cx cy X Y 2 w hX hY hn hm)
  rw [← hk] at HP
  cases k
  · have hr' := hr.out
    rw [if_neg (by simp)] at hr'
    obtain ⟨rfl, rfl, rfl⟩ := hr'
    clear hr hk hS hB
    go_enter Try.func30, Try.ntmps30
    go_wp2_with (go_at_call 71; refine HP.out.mono ?_; rintro e w' ⟨rfl, q, rfl⟩)
    go_ret3
    refine lmlNo ?_
    (repeat (first | with_reducible exact Below.refl _ _ | with_reducible refine Below.drewN ?_ _ | with_reducible refine Below.setCell ?_ (by simp; try omega) _ | with_reducible refine Below.alloc ?_ (by simp; try omega) _))
  · obtain ⟨p1, p2, rfl, p4, p5⟩ := prsB_at hk.symm
    have HI : LmlIs S B r0 r1 ok := by have := hr.out; rwa [if_pos rfl] at this
    have HI := Lib.hid HI
    obtain ⟨x, hx⟩ : ∃ x, x = meanW X m := ⟨_, rfl⟩
    obtain ⟨y, hy⟩ : ∃ y, y = meanW Y m := ⟨_, rfl⟩
    have HMX := Lib.hid (fun w hX => l06Sum_any xa m cx X w hX (by omega))
    have HMY := Lib.hid (fun w hX => l06Sum_any ya m cy Y w hX (by omega))
    obtain ⟨sx, hsx⟩ : ∃ sx, sx = sumW X m := ⟨_, rfl⟩
    obtain ⟨sy, hsy⟩ : ∃ sy, sy = sumW Y m := ⟨_, rfl⟩
    rw [← hsx] at HMX
    rw [← hsy] at HMY
    have ex : fbin .quo .f32 sx (floatOfInt .f32 m) = x := by rw [hsx]; exact hx.symm
    have ey : fbin .quo .f32 sy (floatOfInt .f32 m) = y := by rw [hsy]; exact hy.symm
    have HX := Lib.hid hX
    have HY := Lib.hid hY
    obtain ⟨xb, xo, hxa, hcx⟩ := hX
    obtain ⟨yb, yo, hya, hcy⟩ := hY
    have e := hxa (by omega)
    subst e
    have e := hya (by omega)
    subst e
    have CX := Lib.hid hcx
    have CY := Lib.hid hcy
    have eS : fbin .quo .f32 (abvW X Y x y m) (belW X x m) = S := by rw [hx, hy]; exact hS.out.symm
    have eB : fbin .sub .f32 y (fbin .mul .f32 S x) = B := by rw [hx, hy, hS.out]; exact hB.out.symm
    have HES := Lib.hid eS
    have hp := fun op => fbin_pick_l op .f32
    have hq := fun op => fbin_pick_r op .f32
    clear hcx hcy hxa hya hk hr hS hB hx hy eS hsx hsy
    go_enter Try.func30, Try.ntmps30
    go_wp2_with fail
    refine HP.out.mono ?_
    rintro e w' ⟨rfl, q1, rfl⟩
    go_wp2_with (first | ((with_reducible refine wpL_fbin ?_); refine ⟨_, _, _, rfl, rfl, rfl, fun s n => ?_⟩))
    refine (HMX.out _ (by exact HX.out)).mono ?_
    rintro e w' ⟨tx, q2, rfl, rfl⟩
    go_wp2_with (first | ((with_reducible refine wpL_fbin ?_); refine ⟨_, _, _, rfl, rfl, rfl, fun s n => ?_⟩))
    refine (HMY.out _ (by exact HY.out)).mono ?_
    rintro e w' ⟨ty, q3, rfl, rfl⟩
    go_wp2_with (first | ((with_reducible refine wpL_fbin ?_); refine ⟨_, _, _, rfl, rfl, rfl, fun s n => ?_⟩))
    clear HX HY HMX HMY HP ex ey
    go_loopw [10, 11, 12] (fun a b i wr => ∃ k d s1 s2 : Nat, k ≤ m ∧ i = .int .i64 k ∧ wr = w.drewN d ∧ a = .float .f32 (pick .f32 (abvW X Y x y k) s1) ∧ b = .float .f32 (pick .f32 (belW X x k) s2)) (fun _ _ i _ => m - (intOf i).toNat)
    case atStart => exact ⟨0, _, 0, 0, Nat.zero_le _, rfl, rfl, by rw [show abvW X Y x y 0 = 0 from rfl, pick_zero], by rw [show belW X x 0 = 0 from rfl, pick_zero]⟩
    case round =>
      obtain ⟨k, d, s1, s2, hk, rfl, rfl, rfl, rfl⟩ := hrel
      by_cases hlt : k < m
      · have c1 := CX.out k hlt
        have c2 := CY.out k hlt
        obtain ⟨U, hU⟩ : ∃ U, U = abvW X Y x y k := ⟨_, rfl⟩
        obtain ⟨V, hV⟩ : ∃ V, V = belW X x k := ⟨_, rfl⟩
        have e1 : fbin .add .f32 U (fbin .mul .f32 (fbin .sub .f32 (X k) x) (fbin .sub .f32 (Y k) y)) = abvW X Y x y (k + 1) := by rw [hU]; rfl
        have e2 : fbin .add .f32 V (fbin .mul .f32 (fbin .sub .f32 (X k) x) (fbin .sub .f32 (X k) x)) = belW X x (k + 1) := by rw [hV]; rfl
        have E1 := Lib.hid e1
        have E2 := Lib.hid e2
        rw [← hU, ← hV]
        clear e1 e2 hU hV
        go_wp2_with (first | ((with_reducible refine wpL_fbin ?_); refine ⟨_, _, _, rfl, rfl, rfl, fun s n => ?_⟩) | ((with_reducible refine wpL_fsame ?_); refine ⟨_, _, rfl, Option.isSome_iff_exists.2 ⟨_, Try.underlying22⟩, Try.underlying22, ?_⟩))
        go_roundw
        case rel => exact ⟨k + 1, _, _, _, by omega, by go_num, rfl, by rw [E1.out], by rw [E2.out]⟩
        case measure => simp [intOf]; omega
      · have hkn : k = m := by omega
        subst hkn
        obtain ⟨U, hU⟩ : ∃ U, U = abvW X Y x y k := ⟨_, rfl⟩
        obtain ⟨V, hV⟩ : ∃ V, V = belW X x k := ⟨_, rfl⟩
        have eS : fbin .quo .f32 U V = S := by rw [hU, hV]; exact HES.out
        rw [← hU, ← hV]
        clear hU hV
        have ho1 := order_pick_l .f32
        have hip := isFin_pick .f32
        cases z : (FloatKind.f32.format.order V 0 == some .eq)
        rotate_left
        · have HN := Lib.hid (fun w' hb => HI.out.no (by rw [← eS, quo_zero z]; rfl) (w := w) (w' := w') hb)
          go_wp2
          go_ret3
          refine HN.out _ ?_
          (repeat (first | with_reducible exact Below.refl _ _ | with_reducible refine Below.drewN ?_ _ | with_reducible refine Below.setCell ?_ (by simp; try omega) _ | with_reducible refine Below.alloc ?_ (by simp; try omega) _))
        · cases f1 : isFin .f32 S
          · have HN := Lib.hid (fun w' hb => HI.out.no (by rw [f1]; rfl) (w := w) (w' := w') hb)
            go_wp2_with (first | ((with_reducible refine wpL_fbin ?_); refine ⟨_, _, _, rfl, rfl, rfl, fun s n => ?_⟩) | (go_at_call 48; refine (l01Finite_any _ _).mono ?_; rintro e w' ⟨rfl, q, rfl⟩) | ((with_reducible refine wpL_fsame ?_); refine ⟨_, _, rfl, Option.isSome_iff_exists.2 ⟨_, Try.underlying22⟩, Try.underlying22, ?_⟩))
            go_ret3
            refine HN.out _ ?_
            (repeat (first | with_reducible exact Below.refl _ _ | with_reducible refine Below.drewN ?_ _ | with_reducible refine Below.setCell ?_ (by simp; try omega) _ | with_reducible refine Below.alloc ?_ (by simp; try omega) _))
          · cases f2 : isFin .f32 B
            · have HN := Lib.hid (fun w' hb => HI.out.no (by rw [f1, f2]; rfl) (w := w) (w' := w') hb)
              go_wp2_with (first | ((with_reducible refine wpL_fbin ?_); refine ⟨_, _, _, rfl, rfl, rfl, fun s n => ?_⟩) | (go_at_call 48; refine (l01Finite_any _ _).mono ?_; rintro e w' ⟨rfl, q, rfl⟩) | ((with_reducible refine wpL_fsame ?_); refine ⟨_, _, rfl, Option.isSome_iff_exists.2 ⟨_, Try.underlying22⟩, Try.underlying22, ?_⟩))
              go_ret3
              refine HN.out _ ?_
              (repeat (first | with_reducible exact Below.refl _ _ | with_reducible refine Below.drewN ?_ _ | with_reducible refine Below.setCell ?_ (by simp; try omega) _ | with_reducible refine Below.alloc ?_ (by simp; try omega) _))
            · have HN := Lib.hid (fun s t w' hb => HI.out.yes (by rw [f1, f2]; rfl) (w := w) (w' := w') s t hb)
              go_wp2_with (first | ((with_reducible refine wpL_fbin ?_); refine ⟨_, _, _, rfl, rfl, rfl, fun s n => ?_⟩) | (go_at_call 48; refine (l01Finite_any _ _).mono ?_; rintro e w' ⟨rfl, q, rfl⟩) | ((with_reducible refine wpL_fsame ?_); refine ⟨_, _, rfl, Option.isSome_iff_exists.2 ⟨_, Try.underlying22⟩, Try.underlying22, ?_⟩))
              go_ret3
              refine HN.out _ _ _ ?_
              (repeat (first | with_reducible exact Below.refl _ _ | with_reducible refine Below.drewN ?_ _ | with_reducible refine Below.setCell ?_ (by simp; try omega) _ | with_reducible refine Below.alloc ?_ (by simp; try omega) _))
theorem bothLampLine (N : Nat) (X : Nat → Nat) (hN : N ≤ 1048576) (M : Nat) (Y : Nat → Nat) (hM : M ≤ 1048576) :
    ∃ (r0 r1 : Nat) (ok : Bool), (∀ (xa : Option Addr) (c : Nat) (ya : Option Addr) (c' : Nat) (w : World), Rd w xa N X → Rd w ya M Y → Calls Try.prog 30 #[.slice xa N c, .slice ya M c'] w (RetLampLine r0 r1 ok w)) ∧
      ∀ (xa : Option Addr) (c : Nat) (ya : Option Addr) (c' : Nat) (w : World), Rd w xa N X → Rd w ya M Y → Calls Try.prog 31 #[.slice xa N c, .slice ya M c'] w (RetLampLine r0 r1 ok w) := by
  cases hk : prsB X Y N M 2 16
  · exact ⟨0, 0, false, fun xa c ya c' w hX hY => specLml_any xa ya N M c c' X Y w hX hY hN hM _ hk.symm _ _ _ _ _ (Lib.hid rfl) (Lib.hid rfl) (Lib.hid (by rw [if_neg (by simp)]; exact ⟨rfl, rfl, rfl⟩)),
      fun xa c ya c' w hX hY => implLml_any xa ya N M c c' X Y w hX hY hN hM _ hk.symm _ _ _ _ _ (Lib.hid rfl) (Lib.hid rfl) (Lib.hid (by rw [if_neg (by simp)]; exact ⟨rfl, rfl, rfl⟩))⟩
  · exact ⟨_, _, _, fun xa c ya c' w hX hY => specLml_any xa ya N M c c' X Y w hX hY hN hM _ hk.symm _ _ _ _ _ (Lib.hid rfl) (Lib.hid rfl) (Lib.hid (by rw [if_pos rfl]; exact ⟨rfl, rfl, rfl⟩)),
      fun xa c ya c' w hX hY => implLml_any xa ya N M c c' X Y w hX hY hN hM _ hk.symm _ _ _ _ _ (Lib.hid rfl) (Lib.hid rfl) (Lib.hid (by rw [if_pos rfl]; exact ⟨rfl, rfl, rfl⟩))⟩
set_option maxRecDepth 100000 in
set_option maxHeartbeats 6400000 in
theorem lawLampLine_in (W : World) (x0 : Option Addr) (n0 c0 : Nat) (X0 : Nat → Nat) (hX0 : Rd W x0 n0 X0) (x1 : Option Addr) (n1 c1 : Nat) (X1 : Nat → Nat) (hX1 : Rd W x1 n1 X1) (h0 : n0 ≤ 1048576) (h1 : n1 ≤ 1048576) (r0 : Nat) (r1 : Nat) (r2 : Bool) (HS : Hid (∀ (x0 : Option Addr) (c0 : Nat) (x1 : Option Addr) (c1 : Nat) (w : World), Rd w x0 n0 X0 → Rd w x1 n1 X1 → Calls Try.prog 30 #[.slice x0 n0 c0, .slice x1 n1 c1] w (RetLampLine r0 r1 r2 w))) (HI : Hid (∀ (x0 : Option Addr) (c0 : Nat) (x1 : Option Addr) (c1 : Nat) (w : World), Rd w x0 n0 X0 → Rd w x1 n1 X1 → Calls Try.prog 31 #[.slice x0 n0 c0, .slice x1 n1 c1] w (RetLampLine r0 r1 r2 w))) :
    Calls Try.prog 8 #[.slice x0 n0 c0, .slice x1 n1 c1] W fun e w' => e = .returned (.bool true) ∧ Below W.heap.size W w' := by
  have hcv := fun (R : Nat) (s t : Nat) => show canon .f64 (pick .f64 (fconv .f32 (pick .f32 R s) .f64) t) = canon .f64 (fconv .f32 R .f64) by rw [canon_pick, fconv_pick]
  have hcw := fun (R : Nat) (s t : Nat) => show canon .f64 (pick .f64 R s) = canon .f64 (pick .f64 R t) by rw [canon_pick, canon_pick]
  have HCV := Lib.hid hcv
  have HCW := Lib.hid hcw
  clear hcv hcw
  have hnb2 : (r2 != r2) = false := by simp
  have HB := Blw.refl W
  go_enter Try.func8, Try.ntmps8
  go_wp2_with fail
  refine (toF_any _ _ _ X0 _ (by exact hX0.below (Blw.out (by exact HB))) h0).mono ?_
  rintro e0 w0 ⟨rfl, O0, B0⟩
  replace HB := Blw.next (by exact HB) B0
  have C0 := O0
  clear O0 B0
  go_wp2_with fail
  refine (toF_any _ _ _ X1 _ (by exact hX1.below (Blw.out (by exact HB))) h1).mono ?_
  rintro e0 w0 ⟨rfl, O0, B0⟩
  replace C0 := own_below (by exact C0) B0
  replace HB := Blw.next (by exact HB) B0
  have C1 := O0
  clear O0 B0
  go_wp2_with fail
  refine (HS.out _ _ _ _ _ (rd_own (by exact C0)) (rd_own (by exact C1))).mono ?_
  rintro e0 w1 ⟨sw0, sw1, rfl, B0⟩
  clear C0
  clear C1
  replace HB := Blw.next (by exact HB) B0
  clear B0
  have Z0 := hX0.below HB.out
  have Z1 := hX1.below HB.out
  have HL := Blw.refl w1
  have E0 := (Blw.out (by exact HL)).size
  go_wp2_with fail
  refine (toF_any _ _ _ X0 _ (by exact Z0.below (Blw.out (by exact HL))) h0).mono ?_
  rintro e0 w0 ⟨rfl, O0, B0⟩
  replace HL := Blw.next (by exact HL) B0
  have D0 := O0
  clear O0 B0
  have E1 := (Blw.out (by exact HL)).size
  have Q0_1 := own_lt (by exact D0)
  go_wp2_with fail
  refine (toF_any _ _ _ X1 _ (by exact Z1.below (Blw.out (by exact HL))) h1).mono ?_
  rintro e0 w0 ⟨rfl, O0, B0⟩
  replace D0 := own_below (by exact D0) B0
  replace HL := Blw.next (by exact HL) B0
  have D1 := O0
  clear O0 B0
  have Qg0 := own_lt (by exact D0)
  have Qg1 := own_lt (by exact D1)
  have Eg := (Blw.out (by exact HL)).size
  go_wp2_with fail
  refine (HI.out _ _ _ _ _ (rd_own (by exact D0)) (rd_own (by exact D1))).mono ?_
  rintro e0 w2 ⟨sg0, sg1, rfl, B0⟩
  replace D0 := own_below (by exact D0) B0
  replace D1 := own_below (by exact D1) B0
  replace HL := Blw.next (by exact HL) B0
  clear B0
  go_wp2_with (first | ((with_reducible refine wpL_fconv ?_); refine ⟨_, _, _, rfl, Option.isSome_iff_exists.2 ⟨_, Try.underlying22⟩, Try.underlying26, FloatKind.noConfusion, convOk_widen _, fun s n => ?_⟩) | ((with_reducible refine wpL_fconv_g ?_); refine ⟨rfl, _, _, _, rfl, Option.isSome_iff_exists.2 ⟨_, Try.underlying22⟩, Try.underlying26, FloatKind.noConfusion, convOk_widen _, fun s n => ?_⟩))
  refine (sameFloat_any _ _ _ ((HCV.out _ _ _).trans (HCV.out _ _ _).symm)).mono ?_
  rintro e0 w0 ⟨rfl, q, rfl⟩
  go_wp2_with (first | ((with_reducible refine wpL_fconv ?_); refine ⟨_, _, _, rfl, Option.isSome_iff_exists.2 ⟨_, Try.underlying22⟩, Try.underlying26, FloatKind.noConfusion, convOk_widen _, fun s n => ?_⟩) | ((with_reducible refine wpL_fconv_g ?_); refine ⟨rfl, _, _, _, rfl, Option.isSome_iff_exists.2 ⟨_, Try.underlying22⟩, Try.underlying26, FloatKind.noConfusion, convOk_widen _, fun s n => ?_⟩))
  refine (sameFloat_any _ _ _ ((HCV.out _ _ _).trans (HCV.out _ _ _).symm)).mono ?_
  rintro e0 w0 ⟨rfl, q, rfl⟩
  go_wp2_with fail
  refine (toF_any _ _ _ X0 _ (by exact Z0.below (Blw.out (by exact HL))) h0).mono ?_
  rintro e0 w0 ⟨rfl, O0, B0⟩
  replace D0 := own_below (by exact D0) B0
  replace D1 := own_below (by exact D1) B0
  replace HL := Blw.next (by exact HL) B0
  have K0 := O0
  clear O0 B0
  go_wp2_with fail
  refine (eqF_any _ _ _ _ _ X0 X0 _ (by exact rd_own (by exact D0)) (by exact rd_own (by exact K0)) h0 (fun _ _ => rfl)).mono ?_
  rintro e0 w0 ⟨rfl, q, rfl⟩
  clear K0
  go_wp2_with fail
  refine (toF_any _ _ _ X1 _ (by exact Z1.below (Blw.out (by exact HL))) h1).mono ?_
  rintro e0 w0 ⟨rfl, O0, B0⟩
  replace D0 := own_below (by exact D0) B0
  replace D1 := own_below (by exact D1) B0
  replace HL := Blw.next (by exact HL) B0
  have K1 := O0
  clear O0 B0
  go_wp2_with fail
  refine (eqF_any _ _ _ _ _ X1 X1 _ (by exact rd_own (by exact D1)) (by exact rd_own (by exact K1)) h1 (fun _ _ => rfl)).mono ?_
  rintro e0 w0 ⟨rfl, q, rfl⟩
  clear K1
  go_wp2
  go_ret
  exact ⟨rfl, (Blw.out (by exact HB)).trans ((Blw.out (by exact HL)).mono (Blw.out (by exact HB)).size)⟩
set_option maxHeartbeats 1600000 in
theorem lawLampLine_any (W : World) (x0 : Option Addr) (n0 c0 : Nat) (X0 : Nat → Nat) (hX0 : Rd W x0 n0 X0) (x1 : Option Addr) (n1 c1 : Nat) (X1 : Nat → Nat) (hX1 : Rd W x1 n1 X1) :
    Calls Try.prog 8 #[.slice x0 n0 c0, .slice x1 n1 c1] W fun e w' => e = .returned (.bool true) ∧ Below W.heap.size W w' := by
  by_cases h0 : n0 ≤ 1048576
  · skip
    by_cases h1 : n1 ≤ 1048576
    · skip
      obtain ⟨r0, r1, r2, hs, hi⟩ := bothLampLine n0 X0 h0 n1 X1 h1
      exact lawLampLine_in W x0 n0 c0 X0 hX0 x1 n1 c1 X1 hX1 h0 h1 r0 r1 r2 (Lib.hid hs) (Lib.hid hi)
    · have h' : (1048576 : Int) < (n1 : Int) := by omega
      go_enter Try.func8, Try.ntmps8
      go_wp2
      go_ret
      exact ⟨rfl, (Blw.refl W).out⟩
  · have h' : (1048576 : Int) < (n0 : Int) := by omega
    go_enter Try.func8, Try.ntmps8
    go_wp2
    go_ret
    exact ⟨rfl, (Blw.refl W).out⟩
set_option maxRecDepth 100000 in
theorem FnExactLampLine_lifted (os : Os) (started : os.Started) (H : Type) (enc : TypeId × Value → H) :
    ReturnsInHanded {} Try.checked os 8 .any (Rows.fnExactLampLineSpec.pre6 enc Try.prog Try.f8 Rows.fnExactLampLineRow.domain false) (Rows.fnExactLampLineSpec.post enc Try.prog Try.f8 false true false false) := by
  refine returnsInHanded_of_change (C := Try.checked) ownKnob_none started (by kernel_rfl) Try.func8
    (ChangeSpec.witness6 (enc := enc) (C := Try.checked) false ⟨#[], #[.slice none 0 0, .slice none 0 0], []⟩ 8 (by kernel_rfl) (by kernel_rfl) (by kernel_rfl) (by kernel_rfl)) ?_
  intro W base args ds gs before hval0 hW _ _
  have hval : ∀ (j : Nat) t v, Try.f8.params[j]? = some t → args[j]? = some v → Value.okWide Try.prog W .any base t v := hval0
  have hW' := hW
  obtain ⟨p, q, hA0, hV, rfl, _, _⟩ := hW
  have hA : DataW.TrodAll enc Try.prog W 0 (fun _ => true) true Try.f8.params.toList args.toList ds p := hA0
  rw [Try.params8] at hA hval
  obtain ⟨v0, v1, d0, d1, p0, p1, rfl, rfl, rfl, h0, h1⟩ := trodAll_two hA
  obtain ⟨rfl, rfl⟩ := trodVars_none hV
  obtain ⟨x0, n0, c0, rfl⟩ := okWide_slice Try.underlying30 (hval 0 30 v0 rfl rfl)
  have k0 := h0
  obtain ⟨_, _, a0, w0, _⟩ := open_f32s Try.underlying30 Try.underlying22 cellsF h0
  have b0 : ∀ x ∈ p0, x.block < W.heap.size := fun x hx => by have := hW'.lt x (by simp [hx]); simpa using this
  obtain ⟨x1, n1, c1, rfl⟩ := okWide_slice Try.underlying30 (hval 1 30 v1 rfl rfl)
  have k1 := h1
  obtain ⟨_, _, a1, w1, _⟩ := open_f32s Try.underlying30 Try.underlying22 cellsF h1
  have b1 : ∀ x ∈ p1, x.block < W.heap.size := fun x hx => by have := hW'.lt x (by simp [hx]); simpa using this
  clear hA0 hval0
  refine (lawLampLine_any W x0 n0 c0 a0 w0 x1 n1 c1 a1 w1).mono fun e W' ⟨he, hb⟩ => ?_
  subst he
  have hA2 := trodAll_mk2 (enc := enc) (w := W') (base := 0) (spare := fun b => decide (b < W.heap.size)) (held := true) (Below.trod laidOut (by kernel_rfl) (of_decide_eq_true (by kernel_rfl)) k0 hb b0) (Below.trod laidOut (by kernel_rfl) (of_decide_eq_true (by kernel_rfl)) k1 hb b1)
  exact ⟨_, rfl, _, _, _, [], _, [], hW', trodAll_cons_mk (shut_bool Try.underlying4 _) trodAll_mk0, hA2, rfl, hb.frame _, fun h => by cases h⟩
theorem FnExactLampLine_holds : Rows.FnExactLampLineSaid :=
  OpenClaim.holds_of_wide 8 Try.f8 rfl rfl rfl rfl rfl rfl rfl ⟨rfl, rfl, rfl, rfl, rfl⟩ rfl rfl rfl rfl rfl (by kernel_rfl) Try.func8 (by kernel_rfl)
    (of_decide_eq_true (by kernel_rfl)) (by unfold Func.isWrapper; first | (rw [if_pos (by decide +kernel)]; kernel_rfl) | (rw [if_neg (by decide +kernel)]; exact ⟨rfl, rfl⟩))
    (fun os started H enc _ => FnExactLampLine_lifted os started H enc)
end Go.Proofs.Ytfnapaijfdiflaa
