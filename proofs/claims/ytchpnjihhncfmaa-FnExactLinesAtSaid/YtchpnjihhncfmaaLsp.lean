/- How high lines are at a place: as the model tells it. -/
import Derived.Test.YtchpnjihhncfmaaLpa
import Derived.Test.YtchpnjihhncfmaaLsk
import Derived.Test.YtchpnjihhncfmaaNu5
namespace Go.Proofs.Ytchpnjihhncfmaa
open Go Go.ChangeShapes Go.WideShapes Go.ChangeAt Go.RowKit

def lsD (X : Nat → Ln) (x n : Nat) : Nat := sumV (fun j => lnM (X j) x) n
theorem lsD_succ (X : Nat → Ln) (x k : Nat) : fbin .add .f32 (lsD X x k) (lnM (X k) x) = lsD X x (k + 1) := rfl
set_option maxRecDepth 100000 in
set_option maxHeartbeats 1600000 in
theorem l05Sum_any (xa : Option Addr) (n cap : Nat) (X : Nat → Ln) (x : Nat) (w : World) (hX : RdN w xa n X) (hn : n ≤ 1048576) (hl : ∀ k, k < n → okLn (X k) = true) (hx : isFin .f32 x = true) :
    Calls Try.prog 90 #[.slice xa n cap, .float .f32 x] w (FltP (lsD X x n) w) := by
  obtain ⟨xb, xo, hxa, hcx⟩ := hX
  have HX := Lib.hid hcx
  clear hcx
  have HL := Lib.hid hl
  clear hl
  have hp := fun op => fbin_pick_l op .f32
  go_enter Try.func90, Try.ntmps90
  go_wp2
  go_loopw [5, 9] (fun q i wr => ∃ k m s : Nat, k ≤ n ∧ i = .int .i64 k ∧ wr = w.drewN m ∧ q = .float .f32 (pick .f32 (lsD X x k) s)) (fun _ i _ => n - (intOf i).toNat)
  case atStart => exact ⟨0, 0, 0, Nat.zero_le _, rfl, rfl, by rw [show lsD X x 0 = 0 from rfl, pick_num (by decide +kernel)]⟩
  case round =>
    obtain ⟨k, m, s, hk, rfl, rfl, rfl⟩ := hrel
    by_cases hlt : k < n
    · have e := hxa (by omega)
      subst e
      have HV := Lib.hid (l05At_any xb (xo + k * 4) (X k) x (w.drewN m) (HX.out k hlt) (HL.out k hlt) hx _ (Lib.hid rfl))
      have hd := lsD_succ X x k
      obtain ⟨D, hD⟩ : ∃ D, D = lsD X x k := ⟨_, rfl⟩
      obtain ⟨V, hV⟩ : ∃ V, V = lnM (X k) x := ⟨_, rfl⟩
      rw [← hD, ← hV] at hd
      rw [← hV] at HV
      have HD := Lib.hid hD
      have HE := Lib.hid hd
      have hp2 := fun op => fbin_pick_r op .f32
      rw [← HD.out]
      clear hD hV hd
      go_wp2_with (first | (go_at_call 149; refine HV.out.mono ?_; rintro e w' ⟨s', q, rfl, rfl⟩) | ((with_reducible refine wpL_fbin ?_); refine ⟨_, _, _, rfl, rfl, rfl, fun s n => ?_⟩))
      go_roundw
      case rel => exact ⟨k + 1, _, _, by omega, by go_num, rfl, by rw [HE.out]⟩
      case measure => simp [intOf]; omega
    · have hkn : k = n := by omega
      subst hkn
      go_wp2
      go_ret
      exact ⟨s, m, rfl, rfl⟩
/-- Whether lines are told at a place. -/
def lsOk (X : Nat → Ln) (n x : Nat) : Bool := (allLn X n && decide (n ≤ 12)) && isFin .f32 x
def lsV (X : Nat → Ln) (n x : Nat) : Nat := if lsOk X n x = true then numQ (lsD X x n) else 0
def lsB (X : Nat → Ln) (n x : Nat) : Bool := lsOk X n x && isFin .f32 (lsD X x n)
set_option maxRecDepth 100000 in
set_option maxHeartbeats 1600000 in
theorem specLinesAt_any (xa : Option Addr) (n cap : Nat) (X : Nat → Ln) (x : Nat) (w : World) (hX : RdN w xa n X) (hn : n ≤ 1048576) (R : Nat) (ok : Bool) (hR : Hid (R = lsV X n x)) (ho : Hid (ok = lsB X n x)) :
    Calls Try.prog 37 #[.slice xa n cap, .float .f32 x] w (QRet R ok w) := by
  have HS := Lib.hid (fun w hX => l05Lines_any xa n cap X w hX hn _ (Lib.hid rfl))
  cases c : (allLn X n && decide (n ≤ 12))
  · rw [c] at HS
    have HR := Lib.hid (show ∀ m, QRet R ok w (.returned (.tuple #[.float .f32 0, .bool false])) (w.drewN m) from fun m => ⟨0, m, by rw [hR.out, ho.out, lsV, lsB, lsOk, c]; simp [pick_nul], rfl⟩)
    clear c hR ho
    go_enter Try.func37, Try.ntmps37
    go_wp2_with (go_at_call 89; refine (HS.out _ (by exact hX)).mono ?_; rintro e w' ⟨rfl, q, rfl⟩)
    go_ret2
    exact HR.out _
  · rw [c] at HS
    cases d : isFin .f32 x
    · have HR := Lib.hid (show ∀ m, QRet R ok w (.returned (.tuple #[.float .f32 0, .bool false])) (w.drewN m) from fun m => ⟨0, m, by rw [hR.out, ho.out, lsV, lsB, lsOk, c, d]; simp [pick_nul], rfl⟩)
      clear c hR ho
      go_enter Try.func37, Try.ntmps37
      go_wp2_with (first | (go_at_call 89; refine (HS.out _ (by exact hX)).mono ?_; rintro e w' ⟨rfl, q, rfl⟩) | (first | (go_at_call 79; refine (l01Finite_any _ _).mono ?_; rintro e w' ⟨rfl, q, rfl⟩)))
      go_ret2
      exact HR.out _
    · have hl : ∀ k, k < n → okLn (X k) = true := allLn_at (by simp only [Bool.and_eq_true] at c; exact c.1)
      have HT := Lib.hid (fun w hX => l05Sum_any xa n cap X x w hX hn hl d)
      obtain ⟨D, hD⟩ : ∃ D, D = lsD X x n := ⟨_, rfl⟩
      rw [← hD] at HT
      have HQ := Lib.hid (fun s w => numS_any D s w)
      have eR : R = numQ D := by rw [hR.out, lsV, if_pos (by rw [lsOk, c, d]; rfl), hD]
      have eo : ok = isFin .f32 D := by rw [ho.out, lsB, lsOk, c, d, hD]; rfl
      have HR := Lib.hid (show ∀ s m, QRet R ok w (.returned (.tuple #[.float .f32 (pick .f32 (numQ D) s), .bool (isFin .f32 D)])) (w.drewN m) from fun s m => ⟨s, m, by rw [eR, eo], rfl⟩)
      clear c hR ho hl eR eo hD
      go_enter Try.func37, Try.ntmps37
      go_wp2_with (first | (go_at_call 89; refine (HS.out _ (by exact hX)).mono ?_; rintro e w' ⟨rfl, q, rfl⟩) | (first | (go_at_call 79; refine (l01Finite_any _ _).mono ?_; rintro e w' ⟨rfl, q, rfl⟩)) | (go_at_call 90; refine (HT.out _ (by exact hX)).mono ?_; rintro e w' ⟨s', q, rfl, rfl⟩) | (go_at_call 84; refine (HQ.out _ _).mono ?_; rintro e w' ⟨s2, m2, rfl, rfl⟩))
      go_ret2
      exact HR.out _ _
end Go.Proofs.Ytchpnjihhncfmaa
