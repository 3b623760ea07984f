/- How many levels are below an energy: as the model counts, and as the program does. -/
import Derived.Test.YtdoaajmojfdjoabFinL
namespace Go.Proofs.Ytdoaajmojfdjoab
open Go Go.ChangeShapes Go.WideShapes Go.ChangeAt Go.RowKit

def rowsOk (X : Nat → Nat) (n b : Nat) : Bool := decide (1 ≤ n ∧ n ≤ 48) && finL X n && isFin .f32 b
theorem rowsOk_len {X : Nat → Nat} {n b : Nat} (h : ¬ (1 ≤ n ∧ n ≤ 48)) : rowsOk X n b = false := by simp only [rowsOk, decide_eq_false h, Bool.false_and]
theorem rowsOk_x {X : Nat → Nat} {n b : Nat} (h : finL X n = false) : rowsOk X n b = false := by simp [rowsOk, h]
theorem rowsOk_yes {X : Nat → Nat} {n b : Nat} (h1 : 1 ≤ n) (h2 : n ≤ 48) (h : finL X n = true) : rowsOk X n b = isFin .f32 b := by simp [rowsOk, h, h1, h2]
theorem rowsOk_bounds {X : Nat → Nat} {n b : Nat} (h : rowsOk X n b = true) : 1 ≤ n ∧ n ≤ 48 := by
  by_cases hh : 1 ≤ n ∧ n ≤ 48
  · exact hh
  · rw [rowsOk_len hh] at h; cases h
set_option maxHeartbeats 800000 in
theorem l02Rows_any (xa : Option Addr) (n cap : Nat) (X : Nat → Nat) (b : Nat) (w : World) (hX : Rd w xa n X) (hn : n ≤ 1048576) :
    Calls Try.prog 74 #[.slice xa n cap, .float .f32 b] w fun e w' => e = .returned (.bool (rowsOk X n b)) ∧ ∃ m, w' = w.drewN m := by
  by_cases h1 : 1 ≤ n
  · have d1 : decide ((1 : Int) ≤ (n : Int)) = true := decide_eq_true (by omega)
    by_cases h2 : n ≤ 48
    · have d2 : decide ((n : Int) ≤ (48 : Int)) = true := decide_eq_true (by omega)
      cases hf : finL X n
      · have H := Lib.hid (rowsOk_x (b := b) hf)
        go_enter Try.func74, Try.ntmps74
        go_wp2_with (go_at_call 88; refine (l02Finite_any _ _ _ X _ hX hn).mono ?_; rintro e w' ⟨rfl, q, rfl⟩)
        go_ret
        exact ⟨ret_bool H.out.symm, _, rfl⟩
      · have H := Lib.hid (rowsOk_yes (b := b) h1 h2 hf)
        go_enter Try.func74, Try.ntmps74
        go_wp2_with (first | (go_at_call 88; refine (l02Finite_any _ _ _ X _ hX hn).mono ?_; rintro e w' ⟨rfl, q, rfl⟩) | (go_at_call 69; refine (l01Finite_any _ _).mono ?_; rintro e w' ⟨rfl, q, rfl⟩))
        go_ret
        exact ⟨ret_bool H.out.symm, _, rfl⟩
    · have d2 : decide ((n : Int) ≤ (48 : Int)) = false := decide_eq_false (by omega)
      have H := Lib.hid (rowsOk_len (X := X) (b := b) (fun h => h2 h.2))
      go_enter Try.func74, Try.ntmps74
      go_wp2
      go_ret
      exact ⟨ret_bool H.out.symm, 0, rfl⟩
  · have d1 : decide ((1 : Int) ≤ (n : Int)) = false := decide_eq_false (by omega)
    have H := Lib.hid (rowsOk_len (X := X) (b := b) (fun h => h1 h.1))
    go_enter Try.func74, Try.ntmps74
    go_wp2
    go_ret
    exact ⟨ret_bool H.out.symm, 0, rfl⟩
set_option maxHeartbeats 800000 in
theorem validRows_any (xa : Option Addr) (n cap : Nat) (X : Nat → Nat) (b : Nat) (w : World) (hX : Rd w xa n X) (hn : n ≤ 1048576) :
    Calls Try.prog 78 #[.slice xa n cap, .float .f32 b] w fun e w' => e = .returned (.bool (rowsOk X n b)) ∧ ∃ m, w' = w.drewN m := by
  by_cases h1 : 1 ≤ n
  · have d1 : decide ((1 : Int) ≤ (n : Int)) = true := decide_eq_true (by omega)
    by_cases h2 : n ≤ 48
    · have d2 : decide ((n : Int) ≤ (48 : Int)) = true := decide_eq_true (by omega)
      cases hf : finL X n
      · have H := Lib.hid (rowsOk_x (b := b) hf)
        go_enter Try.func78, Try.ntmps78
        go_wp2_with (go_at_call 86; refine (allFinite_any _ _ _ X _ hX hn).mono ?_; rintro e w' ⟨rfl, q, rfl⟩)
        go_ret
        exact ⟨ret_bool H.out.symm, _, rfl⟩
      · have H := Lib.hid (rowsOk_yes (b := b) h1 h2 hf)
        go_enter Try.func78, Try.ntmps78
        go_wp2_with (first | (go_at_call 86; refine (allFinite_any _ _ _ X _ hX hn).mono ?_; rintro e w' ⟨rfl, q, rfl⟩) | (go_at_call 71; refine (IsFinite_any _ _).mono ?_; rintro e w' ⟨rfl, q, rfl⟩))
        go_ret
        exact ⟨ret_bool H.out.symm, _, rfl⟩
    · have d2 : decide ((n : Int) ≤ (48 : Int)) = false := decide_eq_false (by omega)
      have H := Lib.hid (rowsOk_len (X := X) (b := b) (fun h => h2 h.2))
      go_enter Try.func78, Try.ntmps78
      go_wp2
      go_ret
      exact ⟨ret_bool H.out.symm, 0, rfl⟩
  · have d1 : decide ((1 : Int) ≤ (n : Int)) = false := decide_eq_false (by omega)
    have H := Lib.hid (rowsOk_len (X := X) (b := b) (fun h => h1 h.1))
    go_enter Try.func78, Try.ntmps78
    go_wp2
    go_ret
    exact ⟨ret_bool H.out.symm, 0, rfl⟩

/-- A number q of the count ahead of the look whether it is 0. -/
def yW (X : Nat → Nat) (E b k q : Nat) : Nat := if k = 0 then fbin .sub .f32 (X k) E else fbin .sub .f32 (fbin .sub .f32 (X k) E) (fbin .quo .f32 (fbin .mul .f32 b b) q)
def isZ (y : Nat) : Bool := FloatKind.f32.format.order y 0 == some .eq
def isL (y : Nat) : Bool := FloatKind.f32.format.order y 0 == some .lt
def uz (y : Nat) : Nat := if isZ y = true then 897988541 else y
def qW (X : Nat → Nat) (E b : Nat) : Nat → Nat
  | 0 => 0
  | k + 1 => uz (yW X E b k (qW X E b k))
def cW (X : Nat → Nat) (E b : Nat) : Nat → Nat
  | 0 => 0
  | k + 1 => cW X E b k + if isL (qW X E b (k + 1)) = true then 1 else 0
theorem cW_le (X : Nat → Nat) (E b k : Nat) : cW X E b k ≤ k := by
  induction k with
  | zero => exact Nat.le_refl _
  | succ k ih => unfold cW; split <;> omega
theorem uz_lt : (FloatKind.f32.format.order 897988541 0 == some .lt) = false := by decide +kernel
theorem pick_uz (s : Nat) : pick .f32 897988541 s = 897988541 := pick_num (by decide +kernel) s
theorem q_const {X : Nat → Nat} {E b k Q Y : Nat} (hQ : Q = qW X E b k) (hY : yW X E b k Q = Y) (hz : (FloatKind.f32.format.order Y 0 == some .eq) = true) : qW X E b (k + 1) = 897988541 ∧ cW X E b (k + 1) = cW X E b k := by
  have h1 : qW X E b (k + 1) = 897988541 := by
    show uz (yW X E b k (qW X E b k)) = _
    have hz' : isZ Y = true := hz
    rw [← hQ, hY, uz, if_pos hz']
  have h2 : isL 897988541 = false := uz_lt
  refine ⟨h1, ?_⟩
  show cW X E b k + _ = _
  rw [h1, h2]
  rfl
theorem q_same {X : Nat → Nat} {E b k Q Y : Nat} {l : Bool} (hQ : Q = qW X E b k) (hY : yW X E b k Q = Y) (hz : (FloatKind.f32.format.order Y 0 == some .eq) = false) (hl : (FloatKind.f32.format.order Y 0 == some .lt) = l) :
    qW X E b (k + 1) = Y ∧ cW X E b (k + 1) = cW X E b k + if l = true then 1 else 0 := by
  have h1 : qW X E b (k + 1) = Y := by
    show uz (yW X E b k (qW X E b k)) = _
    have hz' : isZ Y = false := hz
    rw [← hQ, hY, uz, hz']
    rfl
  refine ⟨h1, ?_⟩
  show cW X E b k + _ = _
  rw [h1]
  have hl' : isL Y = l := hl
  rw [hl']
theorem val_same {a a' : Nat} (s : Nat) (h : a = a') : Value.float .f32 (pick .f32 a s) = .float .f32 (pick .f32 a' s) := by rw [h]
theorem val_const {a : Nat} (h : a = 897988541) : Value.float .f32 897988541 = .float .f32 (pick .f32 a 0) := by rw [h, pick_uz]
theorem val_cnt {k : IntKind} {a c : Nat} (h : a = c) : Value.int k (c : Int) = .int k (a : Int) := by rw [h]
theorem val_cnt1 {k : IntKind} {a c : Nat} (h : a = c + 1) : Value.int k ((c : Int) + 1) = .int k (a : Int) := by rw [h]; rfl
/-- How many, and that it succeeded. -/
def CntRet (c : Nat) (w : World) (e : Ending) (w' : World) : Prop := e = .returned (.int .i64 (c : Int)) ∧ ∃ m, w' = w.drewN m
set_option maxHeartbeats 3200000 in
theorem l02Below_any (xa : Option Addr) (n cap : Nat) (X : Nat → Nat) (b E : Nat) (w : World) (hX : Rd w xa n X) (hn : n ≤ 48) :
    Calls Try.prog 126 #[.slice xa n cap, .float .f32 b, .float .f32 E] w (CntRet (cW X E b n) w) := by
  obtain ⟨xb, xo, hxa, hcx⟩ := hX
  have HX := Lib.hid hcx
  clear hcx
  go_enter Try.func126, Try.ntmps126
  go_wp2
  go_loopw [7, 8, 9] (fun c q i wr => ∃ k m s : Nat, k ≤ n ∧ i = .int .i64 k ∧ wr = w.drewN m ∧ q = .float .f32 (pick .f32 (qW X E b k) s) ∧ c = .int .i64 (cW X E b k : Nat)) (fun _ _ i _ => n - (intOf i).toNat)
  case atStart => exact ⟨0, 0, 0, Nat.zero_le _, rfl, rfl, by rw [show qW X E b 0 = 0 from rfl, show pick .f32 0 0 = 0 from pick_num (by decide +kernel) 0], rfl⟩
  case round =>
    obtain ⟨k, m, s, hk, rfl, rfl, rfl, rfl⟩ := hrel
    by_cases hlt : k < n
    · have e := hxa (by omega)
      subst e
      have h1 := HX.out k hlt
      have hC := cW_le X E b k
      have hp := fun op => fbin_pick_l op .f32
      have hr := fun op => fbin_pick_r op .f32
      have ho := order_pick_l .f32
      have hul := uz_lt
      obtain ⟨Q, hQ⟩ : ∃ Q, Q = qW X E b k := ⟨_, rfl⟩
      obtain ⟨Y, hY⟩ : ∃ Y, yW X E b k Q = Y := ⟨_, rfl⟩
      obtain ⟨C, hCe⟩ : ∃ C, C = cW X E b k := ⟨_, rfl⟩
      have HQ := Lib.hid hQ
      have HY := Lib.hid hY
      have HC := Lib.hid hCe
      rw [← hQ, ← hCe]
      rw [← hCe] at hC
      by_cases hk0 : k = 0
      · subst hk0
        have hy : fbin .sub .f32 (X 0) E = Y := hY
        rw [Nat.add_zero] at h1
        clear hQ hY hCe
        cases hz : (FloatKind.f32.format.order Y 0 == some .eq)
        · cases hl : (FloatKind.f32.format.order Y 0 == some .lt)
          · have HE := Lib.hid (q_same HQ.out HY.out hz hl)
            go_wp2_with ((with_reducible refine wpL_fbin ?_); refine ⟨_, _, _, rfl, rfl, rfl, fun s n => ?_⟩)
            go_roundw
            case rel => exact ⟨1, _, _, by omega, by go_num, rfl, val_same _ HE.out.1.symm, val_cnt (by rw [HE.out.2, ← HC.out]; rfl)⟩
            case measure => simp [intOf]; omega
          · have HE := Lib.hid (q_same HQ.out HY.out hz hl)
            go_wp2_with ((with_reducible refine wpL_fbin ?_); refine ⟨_, _, _, rfl, rfl, rfl, fun s n => ?_⟩)
            go_roundw
            case rel => exact ⟨1, _, _, by omega, by go_num, rfl, val_same _ HE.out.1.symm, val_cnt1 (by rw [HE.out.2, ← HC.out]; rfl)⟩
            case measure => simp [intOf]; omega
        · have HE := Lib.hid (q_const HQ.out HY.out hz)
          go_wp2_with ((with_reducible refine wpL_fbin ?_); refine ⟨_, _, _, rfl, rfl, rfl, fun s n => ?_⟩)
          go_roundw
          case rel => exact ⟨1, _, 0, by omega, by go_num, rfl, val_const HE.out.1, val_cnt (by rw [HE.out.2, ← HC.out])⟩
          case measure => simp [intOf]; omega
      · have hy : fbin .sub .f32 (fbin .sub .f32 (X k) E) (fbin .quo .f32 (fbin .mul .f32 b b) Q) = Y := by rw [← hY, yW, if_neg hk0]
        have hkp : (0 : Int) < (k : Int) := by omega
        clear hQ hY hCe
        cases hz : (FloatKind.f32.format.order Y 0 == some .eq)
        · cases hl : (FloatKind.f32.format.order Y 0 == some .lt)
          · have HE := Lib.hid (q_same HQ.out HY.out hz hl)
            go_wp2_with ((with_reducible refine wpL_fbin ?_); refine ⟨_, _, _, rfl, rfl, rfl, fun s n => ?_⟩)
            go_roundw
            case rel => exact ⟨k + 1, _, _, by omega, by go_num, rfl, val_same _ HE.out.1.symm, val_cnt (by rw [HE.out.2, ← HC.out]; rfl)⟩
            case measure => simp [intOf]; omega
          · have HE := Lib.hid (q_same HQ.out HY.out hz hl)
            go_wp2_with ((with_reducible refine wpL_fbin ?_); refine ⟨_, _, _, rfl, rfl, rfl, fun s n => ?_⟩)
            go_roundw
            case rel => exact ⟨k + 1, _, _, by omega, by go_num, rfl, val_same _ HE.out.1.symm, val_cnt1 (by rw [HE.out.2, ← HC.out]; rfl)⟩
            case measure => simp [intOf]; omega
        · have HE := Lib.hid (q_const HQ.out HY.out hz)
          go_wp2_with ((with_reducible refine wpL_fbin ?_); refine ⟨_, _, _, rfl, rfl, rfl, fun s n => ?_⟩)
          go_roundw
          case rel => exact ⟨k + 1, _, 0, by omega, by go_num, rfl, val_const HE.out.1, val_cnt (by rw [HE.out.2, ← HC.out])⟩
          case measure => simp [intOf]; omega
    · have hkn : k = n := by omega
      subst hkn
      go_wp2
      go_ret
      exact ⟨rfl, m, rfl⟩
end Go.Proofs.Ytdoaajmojfdjoab
