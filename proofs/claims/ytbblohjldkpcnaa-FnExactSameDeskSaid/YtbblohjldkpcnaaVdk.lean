
/- Whether a desk is valid: as the model asks it, and as the program does. -/
import Derived.Test.YtbblohjldkpcnaaDkv
import Derived.Test.YtbblohjldkpcnaaVal
import Derived.Test.YtbblohjldkpcnaaBin
namespace Go.Proofs.Ytbblohjldkpcnaa
open Go Go.ChangeShapes Go.WideShapes Go.ChangeAt Go.RowKit

def okDk (X : Nat → Nat) (n : Nat) (Y : Nat → Nat) (m : Nat) (p q r s : Nat) (Z : Nat → Nat) (k : Nat) : Bool := (stepsOk X n Y m && okPul p q r s) && binB Z k 2
set_option maxRecDepth 100000 in
set_option maxHeartbeats 1600000 in
theorem l04Is_any (g : Nat) (a b c d : Nat) (w : World) (k2 : w.cell? ⟨g, 2, none⟩ = some (.float .f32 a)) (k3 : w.cell? ⟨g, 3, none⟩ = some (.float .f32 b)) (k4 : w.cell? ⟨g, 4, none⟩ = some (.float .f32 c)) (k5 : w.cell? ⟨g, 5, none⟩ = some (.float .f32 d)) :
    Calls Try.prog 42 #[.pointer (some ⟨g, 2, none⟩)] w fun e w' => e = .returned (.bool (okPul a b c d)) ∧ ∃ q, w' = w.drewN q := by
  cases c1 : isG a
  · skip
    have HK := Lib.hid (show okPul a b c d = false by simp [okPul, *])
    go_enter Try.func42, Try.ntmps42
    go_wp2_with (first | (first | (go_at_call 53; refine (l01Finite_any _ _).mono ?_; rintro e w' ⟨rfl, q, rfl⟩) | (go_at_call 52; refine (l02Least_any _ _).mono ?_; rintro e w' ⟨rfl, q, rfl⟩)) | go_in)
    go_ret
    exact ⟨ret_bool HK.out.symm, _, rfl⟩
  · skip
    cases c2 : isFin .f32 b
    · skip
      have HK := Lib.hid (show okPul a b c d = false by simp [okPul, *])
      go_enter Try.func42, Try.ntmps42
      go_wp2_with (first | (first | (go_at_call 53; refine (l01Finite_any _ _).mono ?_; rintro e w' ⟨rfl, q, rfl⟩) | (go_at_call 52; refine (l02Least_any _ _).mono ?_; rintro e w' ⟨rfl, q, rfl⟩)) | go_in)
      go_ret
      exact ⟨ret_bool HK.out.symm, _, rfl⟩
    · skip
      cases c3 : isFin .f32 c
      · skip
        have HK := Lib.hid (show okPul a b c d = false by simp [okPul, *])
        go_enter Try.func42, Try.ntmps42
        go_wp2_with (first | (first | (go_at_call 53; refine (l01Finite_any _ _).mono ?_; rintro e w' ⟨rfl, q, rfl⟩) | (go_at_call 52; refine (l02Least_any _ _).mono ?_; rintro e w' ⟨rfl, q, rfl⟩)) | go_in)
        go_ret
        exact ⟨ret_bool HK.out.symm, _, rfl⟩
      · skip
        have HK := Lib.hid (show okPul a b c d = isG d by simp [okPul, *])
        go_enter Try.func42, Try.ntmps42
        go_wp2_with (first | (first | (go_at_call 53; refine (l01Finite_any _ _).mono ?_; rintro e w' ⟨rfl, q, rfl⟩) | (go_at_call 52; refine (l02Least_any _ _).mono ?_; rintro e w' ⟨rfl, q, rfl⟩)) | go_in)
        go_ret
        exact ⟨ret_bool HK.out.symm, _, rfl⟩
set_option maxRecDepth 100000 in
set_option maxHeartbeats 1600000 in
theorem l08Is_any (g : Nat) (xa ya za : Option Addr) (n m k cx cy cz : Nat) (X Y Z : Nat → Nat) (p q r s : Nat) (w : World) (hb : Box7 w g (.slice xa n cx) (.slice ya m cy) (.float .f32 p) (.float .f32 q) (.float .f32 r) (.float .f32 s) (.slice za k cz))
    (hX : Rd w xa n X) (hY : Rd w ya m Y) (hZ : Rd w za k Z) (hn : n ≤ 1048576) (hm : m ≤ 1048576) (hk : k ≤ 1048576) :
    Calls Try.prog 26 #[.pointer (some ⟨g, 0, none⟩)] w fun e w' => e = .returned (.bool (okDk X n Y m p q r s Z k)) ∧ ∃ q, w' = w.drewN q := by
  obtain ⟨k0, k1, k2, k3, k4, k5, k6⟩ := hb
  have H1 := Lib.hid (l02Is_any g xa ya n m cx cy X Y w k0 k1 hX hY hn hm)
  have H2 := Lib.hid (fun w k2 k3 k4 k5 => l04Is_any g p q r s w k2 k3 k4 k5)
  have H3 := Lib.hid (fun w hZ => specBins_any za k cz Z 2 w hZ hk)
  cases c1 : stepsOk X n Y m
  · rw [c1] at H1
    have HK := Lib.hid (show okDk X n Y m p q r s Z k = false by simp [okDk, c1])
    clear c1 hX hY
    go_enter Try.func26, Try.ntmps26
    go_wp2_with (go_at_call 41; refine H1.out.mono ?_; rintro e w' ⟨rfl, q, rfl⟩)
    go_ret
    exact ⟨ret_bool HK.out.symm, _, rfl⟩
  · rw [c1] at H1
    cases c2 : okPul p q r s
    · rw [c2] at H2
      have HK := Lib.hid (show okDk X n Y m p q r s Z k = false by simp [okDk, c1, c2])
      clear c1 c2 hX hY
      go_enter Try.func26, Try.ntmps26
      go_wp2_with (first | (go_at_call 41; refine H1.out.mono ?_; rintro e w' ⟨rfl, q, rfl⟩) | (go_at_call 42; refine (H2.out _ (by exact k2) (by exact k3) (by exact k4) (by exact k5)).mono ?_; rintro e w' ⟨rfl, q, rfl⟩))
      go_ret
      exact ⟨ret_bool HK.out.symm, _, rfl⟩
    · rw [c2] at H2
      have HK := Lib.hid (show okDk X n Y m p q r s Z k = binB Z k 2 by simp [okDk, c1, c2])
      clear c1 c2 hX hY
      go_enter Try.func26, Try.ntmps26
      go_wp2_with (first | (go_at_call 41; refine H1.out.mono ?_; rintro e w' ⟨rfl, q, rfl⟩) | (go_at_call 42; refine (H2.out _ (by exact k2) (by exact k3) (by exact k4) (by exact k5)).mono ?_; rintro e w' ⟨rfl, q, rfl⟩) | (go_at_call 43; refine (H3.out _ (by exact hZ)).mono ?_; rintro e w' ⟨rfl, q, rfl⟩))
      go_ret
      exact ⟨ret_bool HK.out.symm, _, rfl⟩
set_option maxRecDepth 100000 in
set_option maxHeartbeats 1600000 in
theorem specVd_any (xa ya za : Option Addr) (n m k cx cy cz : Nat) (X Y Z : Nat → Nat) (p q r s : Nat) (w : World) (hX : Rd w xa n X) (hY : Rd w ya m Y) (hZ : Rd w za k Z) (hn : n ≤ 1048576) (hm : m ≤ 1048576) (hk : k ≤ 1048576) :
    Calls Try.prog 12 #[.agg #[.slice xa n cx, .slice ya m cy, .float .f32 p, .float .f32 q, .float .f32 r, .float .f32 s, .slice za k cz]] w fun e w' => e = .returned (.bool (okDk X n Y m p q r s Z k)) ∧ Below w.heap.size w w' := by
  have hb0 : Below w.heap.size w (w.alloc (.cells #[.slice xa n cx, .slice ya m cy, .float .f32 p, .float .f32 q, .float .f32 r, .float .f32 s, .slice za k cz] 29)) := (Below.refl _ _).alloc (Nat.le_refl _) _
  have HP := Lib.hid (l08Is_any w.heap.size xa ya za n m k cx cy cz X Y Z p q r s _ (box7_alloc w (.slice xa n cx) (.slice ya m cy) (.float .f32 p) (.float .f32 q) (.float .f32 r) (.float .f32 s) (.slice za k cz) 29) (hX.below hb0) (hY.below hb0) (hZ.below hb0) hn hm hk)
  clear hX hY hZ
  go_enter Try.func12, Try.ntmps12
  go_wp2_with fail
  refine HP.out.mono ?_
  rintro e w' ⟨rfl, q, rfl⟩
  go_wp2
  go_ret
  exact ⟨rfl, Below.drewN hb0 _⟩
set_option maxRecDepth 100000 in
set_option maxHeartbeats 1600000 in
theorem implVd_any (xa ya za : Option Addr) (n m k cx cy cz : Nat) (X Y Z : Nat → Nat) (p q r s : Nat) (w : World) (hX : Rd w xa n X) (hY : Rd w ya m Y) (hZ : Rd w za k Z) (hn : n ≤ 1048576) (hm : m ≤ 1048576) (hk : k ≤ 1048576) :
    Calls Try.prog 14 #[.agg #[.slice xa n cx, .slice ya m cy, .float .f32 p, .float .f32 q, .float .f32 r, .float .f32 s, .slice za k cz]] w fun e w' => e = .returned (.bool (okDk X n Y m p q r s Z k)) ∧ Below w.heap.size w w' := by
  have hb0 : Below w.heap.size w (w.alloc (.cells #[.slice xa n cx, .slice ya m cy, .float .f32 p, .float .f32 q, .float .f32 r, .float .f32 s, .slice za k cz] 29)) := (Below.refl _ _).alloc (Nat.le_refl _) _
  have HQ := Lib.hid (box7_alloc w (.slice xa n cx) (.slice ya m cy) (.float .f32 p) (.float .f32 q) (.float .f32 r) (.float .f32 s) (.slice za k cz) 29)
  have H1 := Lib.hid (implValid_any xa ya n m cx cy X Y _ (hX.below hb0) (hY.below hb0) hn hm)
  have H2 := Lib.hid (fun w => implVP_any p q r s w)
  have H3 := Lib.hid (fun w hZ => isScan_any za k cz Z w hZ hk)
  have RZ := hZ.below hb0
  clear hX hY hZ
  cases c1 : stepsOk X n Y m
  · rw [c1] at H1
    have HK := Lib.hid (show okDk X n Y m p q r s Z k = false by simp [okDk, c1])
    clear c1
    go_enter Try.func14, Try.ntmps14
    go_wp2_with fail
    refine H1.out.mono ?_
    rintro e w1 ⟨rfl, B1⟩
    have HB := hb0.trans (B1.mono hb0.size)
    go_wp2
    go_ret
    exact ⟨ret_bool HK.out.symm, HB⟩
  · rw [c1] at H1
    cases c2 : okPul p q r s
    · rw [c2] at H2
      have HK := Lib.hid (show okDk X n Y m p q r s Z k = false by simp [okDk, c1, c2])
      clear c1 c2
      go_enter Try.func14, Try.ntmps14
      go_wp2_with fail
      refine H1.out.mono ?_
      rintro e w1 ⟨rfl, B1⟩
      obtain ⟨k0, k1, k2, k3, k4, k5, k6⟩ := HQ.out.below B1
      have HB := hb0.trans (B1.mono hb0.size)
      go_wp2_with fail
      refine (H2.out _).mono ?_
      rintro e w2 ⟨rfl, B2⟩
      replace HB := HB.trans (B2.mono HB.size)
      go_wp2
      go_ret
      exact ⟨ret_bool HK.out.symm, HB⟩
    · rw [c2] at H2
      have HK := Lib.hid (show okDk X n Y m p q r s Z k = binB Z k 2 by simp [okDk, c1, c2])
      clear c1 c2
      go_enter Try.func14, Try.ntmps14
      go_wp2_with fail
      refine H1.out.mono ?_
      rintro e w1 ⟨rfl, B1⟩
      obtain ⟨k0, k1, k2, k3, k4, k5, k6⟩ := HQ.out.below B1
      have HB := hb0.trans (B1.mono hb0.size)
      go_wp2_with fail
      refine (H2.out _).mono ?_
      rintro e w2 ⟨rfl, B2⟩
      obtain ⟨j0, j1, j2, j3, j4, j5, j6⟩ := (HQ.out.below B1).below B2
      replace HB := HB.trans (B2.mono HB.size)
      go_wp2_with fail
      refine (H3.out _ (by exact (RZ.below B1).below B2)).mono ?_
      rintro e w3 ⟨rfl, q3, rfl⟩
      go_wp2
      go_ret
      exact ⟨ret_bool HK.out.symm, Below.drewN HB _⟩
end Go.Proofs.Ytbblohjldkpcnaa
