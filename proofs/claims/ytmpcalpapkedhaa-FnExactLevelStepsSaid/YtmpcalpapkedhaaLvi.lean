/- Shares of levels behind steps, as the model tells them. -/
import Derived.Test.YtmpcalpapkedhaaLvh
namespace Go.Proofs.Ytmpcalpapkedhaa
set_option linter.all false
open Go Go.ChangeShapes Go.WideShapes Go.ChangeAt Go.RowKit

set_option maxRecDepth 100000 in
set_option maxHeartbeats 3200000 in
theorem specLv_no (a : Int) (ra xa : Option Addr) (L rc n cx : Nat) (A X : Nat → Nat) (h : Nat) (T : Int) (w : World) (hA : Rd w ra L A) (hX : Rd w xa n X) (hLm : L ≤ 1048576) (hn : n ≤ 1048576) (R : Nat → Nat) (hno : lvOk a L A = false ∨ ¬ (n : Int) = a ∨ finL X n = false ∨ isG h = false ∨ inB T 0 512 = false) :
    Calls Try.prog 61 #[.int .i64 a, .slice ra L rc, .slice xa n cx, .float .f32 h, .int .i64 T] w (OutRet R 0 false w) := by
  have HR := Lib.hid (specRates_any a ra L rc A w hA hLm)
  cases h1 : lvOk a L A
  · have HR := Lib.hid (HR.out false (Lib.hid h1.symm))
    clear hno h1
    go_enter Try.func61, Try.ntmps61
    go_wp2_with (go_at_call 116; refine HR.out.mono ?_; rintro e w' ⟨rfl, q, rfl⟩)
    go_ret2
    exact OutRet.no (Below.drewN (Below.refl _ _) _)
  have HR := Lib.hid (HR.out true (Lib.hid h1.symm))
  by_cases h2 : (n : Int) = a
  case neg =>
    have hne : ((n : Int) != a) = true := by simpa using h2
    clear hno h1
    go_enter Try.func61, Try.ntmps61
    go_wp2_with (go_at_call 116; refine HR.out.mono ?_; rintro e w' ⟨rfl, q, rfl⟩)
    go_ret2
    exact OutRet.no (Below.drewN (Below.refl _ _) _)
  subst h2
  have hne : ((n : Int) != (n : Int)) = false := by simp
  have HF := Lib.hid (fun m => l02Finite_any xa n cx X (w.drewN m) (hX.drew m) hn)
  cases h3 : finL X n
  · rw [h3] at HF
    clear hno h1
    go_enter Try.func61, Try.ntmps61
    go_wp2_with (first | (go_at_call 116; refine HR.out.mono ?_; rintro e w' ⟨rfl, q, rfl⟩) | (go_at_call 135; refine (HF.out _).mono ?_; rintro e w' ⟨rfl, q2, rfl⟩))
    go_ret2
    exact OutRet.no (by first | exact Below.drewN (Below.refl _ _) _ | exact Below.drewN (Below.drewN (Below.refl _ _) _) _)
  rw [h3] at HF
  cases h4 : isG h
  · clear hno h1 h3
    go_enter Try.func61, Try.ntmps61
    go_wp2_with (first | (go_at_call 116; refine HR.out.mono ?_; rintro e w' ⟨rfl, q, rfl⟩) | (go_at_call 135; refine (HF.out _).mono ?_; rintro e w' ⟨rfl, q2, rfl⟩) | (first | (go_at_call 100; refine (l02Least_any _ _).mono ?_; rintro e w' ⟨rfl, q, rfl⟩) | (go_at_call 179; refine (l00In_any _ _ _ _).mono ?_; rintro e w' ⟨rfl, rfl⟩)) | go_in)
    go_ret2
    exact OutRet.no (by first | exact Below.drewN (Below.refl _ _) _ | exact Below.drewN (Below.drewN (Below.refl _ _) _) _)
  cases h5 : inB T 0 512
  · clear hno h1 h3
    go_enter Try.func61, Try.ntmps61
    go_wp2_with (first | (go_at_call 116; refine HR.out.mono ?_; rintro e w' ⟨rfl, q, rfl⟩) | (go_at_call 135; refine (HF.out _).mono ?_; rintro e w' ⟨rfl, q2, rfl⟩) | (first | (go_at_call 100; refine (l02Least_any _ _).mono ?_; rintro e w' ⟨rfl, q, rfl⟩) | (go_at_call 179; refine (l00In_any _ _ _ _).mono ?_; rintro e w' ⟨rfl, rfl⟩)) | go_in)
    go_ret2
    exact OutRet.no (by first | exact Below.drewN (Below.refl _ _) _ | exact Below.drewN (Below.drewN (Below.refl _ _) _) _)
  · rcases hno with e | e | e | e | e
    · rw [h1] at e; cases e
    · exact absurd rfl e
    · rw [h3] at e; cases e
    · rw [h4] at e; cases e
    · rw [h5] at e; cases e
theorem specLv_any (a : Int) (ra xa : Option Addr) (L rc n cx : Nat) (A X : Nat → Nat) (h : Nat) (T : Int) (w : World) (hA : Rd w ra L A) (hX : Rd w xa n X) (hLm : L ≤ 1048576) (hn : n ≤ 1048576) (p : Nat) (ok : Bool) (hok : Hid (ok = lvB a L A n X h T)) (hp : Hid (p = if ok = true then n else 0)) :
    Calls Try.prog 61 #[.int .i64 a, .slice ra L rc, .slice xa n cx, .float .f32 h, .int .i64 T] w (OutRet (lvR n A X h T) p ok w) := by
  by_cases hno : lvOk a L A = false ∨ ¬ (n : Int) = a ∨ finL X n = false ∨ isG h = false ∨ inB T 0 512 = false
  · have e : ok = false := by
      rw [hok.out, lvB, lvAll]
      rcases hno with e | e | e | e | e
      · rw [e]; rfl
      · rw [decide_eq_false e]; simp
      · rw [e]; simp
      · rw [e]; simp
      · rw [e]; simp
    subst e
    have e : p = 0 := by rw [hp.out]; rfl
    subst e
    exact specLv_no a ra xa L rc n cx A X h T w hA hX hLm hn _ hno
  · have h1 : lvOk a L A = true := by
      cases c : lvOk a L A
      · exact absurd (.inl c) hno
      · rfl
    have h2 : (n : Int) = a := Decidable.byContradiction fun c => hno (.inr (.inl c))
    have h3 : finL X n = true := by
      cases c : finL X n
      · exact absurd (.inr (.inr (.inl c))) hno
      · rfl
    have h4 : isG h = true := by
      cases c : isG h
      · exact absurd (.inr (.inr (.inr (.inl c)))) hno
      · rfl
    have h5 : inB T 0 512 = true := by
      cases c : inB T 0 512
      · exact absurd (.inr (.inr (.inr (.inr c)))) hno
      · rfl
    subst h2
    obtain ⟨N, e, hN1, hN6, hL, hg, _⟩ := lvOk_at h1
    have e : n = N := by omega
    subst e
    obtain ⟨t, rfl⟩ : ∃ t : Nat, T = (t : Int) := ⟨T.toNat, by have := inB_rng h5; omega⟩
    have hok2 : ok = finL (lvR n A X h (t : Int)) n := by rw [hok.out, lvB, lvAll, h1, decide_eq_true rfl, h3, h4, h5]; rfl
    have eR : stepR (levG n A) h X t = lvR n A X h (t : Int) := by unfold lvR; rw [Int.toNat_natCast]
    have HS := specLv_yes n ra L rc A h t xa cx X w hX hA h1 hLm hg hL hN6 hN1 h3 h4 h5 _ rfl
    unfold LevRet at HS
    rw [eR, ← hok2, ← hp.out] at HS
    exact HS
end Go.Proofs.Ytmpcalpapkedhaa
