
/- Shares of levels behind steps, as the program tells them. -/
import Derived.Test.YtmpcalpapkedhaaLvc
import Derived.Test.YtmpcalpapkedhaaLve
import Derived.Test.YtmpcalpapkedhaaSto
namespace Go.Proofs.Ytmpcalpapkedhaa
set_option linter.all false
open Go Go.ChangeShapes Go.WideShapes Go.ChangeAt Go.RowKit

def lvAll (a : Int) (L : Nat) (A : Nat → Nat) (n : Nat) (X : Nat → Nat) (h : Nat) (T : Int) : Bool := lvOk a L A && (decide ((n : Int) = a) && (finL X n && (isG h && inB T 0 512)))
def lvR (n : Nat) (A X : Nat → Nat) (h : Nat) (T : Int) : Nat → Nat := stepR (levG n A) h X T.toNat
def lvB (a : Int) (L : Nat) (A : Nat → Nat) (n : Nat) (X : Nat → Nat) (h : Nat) (T : Int) : Bool := lvAll a L A n X h T && finL (lvR n A X h T) n
set_option maxRecDepth 100000 in
set_option maxHeartbeats 3200000 in
theorem implLv_any (a : Int) (ra xa : Option Addr) (L rc n cx : Nat) (A X : Nat → Nat) (h : Nat) (T : Int) (w : World) (hA : Rd w ra L A) (hX : Rd w xa n X) (hrc : L ≤ rc) (hLm : L ≤ 1048576) (hn : n ≤ 1048576) (p : Nat) (ok : Bool) (hok : Hid (ok = lvB a L A n X h T)) (hp : Hid (p = if ok = true then n else 0)) :
    Calls Try.prog 62 #[.int .i64 a, .slice ra L rc, .slice xa n cx, .float .f32 h, .int .i64 T] w (OutRet (lvR n A X h T) p ok w) := by
  have HF := Lib.hid (fun ok hok => flowOf_any a ra L rc A w hA hLm ok hok)
  cases h1 : lvOk a L A
  · have e : ok = false := by rw [hok.out, lvB, lvAll, h1]; rfl
    subst e
    have e : p = 0 := by rw [hp.out]; rfl
    subst e
    have HF := Lib.hid (HF.out false (Lib.hid h1.symm))
    clear hok hp
    go_enter Try.func62, Try.ntmps62
    go_wp2_with fail
    refine HF.out.mono ?_
    rintro e w1 (⟨_, rfl, b1⟩ | ⟨h, rfl, b1⟩)
    · go_wp2
      go_ret2
      exact OutRet.no (b1.trans ((Below.refl _ _).alloc b1.size _))
    · cases h
  have HF := Lib.hid (HF.out true (Lib.hid h1.symm))
  by_cases h2 : (n : Int) = a
  case neg =>
    have e : ok = false := by rw [hok.out, lvB, lvAll, h1, decide_eq_false h2]; rfl
    subst e
    have e : p = 0 := by rw [hp.out]; rfl
    subst e
    have hne : ((n : Int) != a) = true := by simpa using h2
    clear hok hp
    go_enter Try.func62, Try.ntmps62
    go_wp2_with fail
    refine HF.out.mono ?_
    rintro e w1 (⟨h, rfl, b1⟩ | ⟨_, rfl, b1⟩)
    · cases h
    · go_wp2
      go_ret2
      exact OutRet.no (b1.trans ((Below.refl _ _).alloc b1.size _))
  subst h2
  have hne : ((n : Int) != (n : Int)) = false := by simp
  obtain ⟨N, e, hN1, hN6, hL, _, _⟩ := lvOk_at h1
  have e : n = N := by omega
  subst e
  have hB := Lib.hid (show ok = ((finL X n && (isG h && inB T 0 512)) && finL (lvR n A X h T) n) by rw [hok.out, lvB, lvAll, h1, decide_eq_true rfl]; rfl)
  have HL := Lib.hid hL
  have HRA := Lib.hid hA
  have HRX := Lib.hid hX
  clear h1 hL hok hA hX
  by_cases hk : finL X n = true ∧ isG h = true ∧ inB T 0 512 = true
  · obtain ⟨k1, k2, k3⟩ := hk
    obtain ⟨t, rfl⟩ : ∃ t : Nat, T = (t : Int) := ⟨T.toNat, by have := inB_rng k3; omega⟩
    have htb : t ≤ 512 := by have := inB_rng k3; omega
    have hok2 : ok = finL (lvR n A X h (t : Int)) n := by rw [hB.out, k1, k2, k3]; rfl
    have HS := Lib.hid (fun (w : World) hX hA => levSteps_yes n ra L rc A h t xa cx X w hX k1 k2 htb hA HL.out hrc hN6 hN1)
    unfold LevRet at HS
    have eR : stepR (levG n A) h X t = lvR n A X h (t : Int) := by unfold lvR; rw [Int.toNat_natCast]
    rw [eR, ← hok2, ← hp.out] at HS
    clear hok2 k1 k2 k3 hB hp
    go_enter Try.func62, Try.ntmps62
    go_wp2_with fail
    refine HF.out.mono ?_
    rintro e w1 (⟨h, rfl, b1⟩ | ⟨_, rfl, b1⟩)
    · cases h
    · have b2 := b1.trans ((Below.refl _ w1).alloc b1.size (.cells #[.int .i64 (n : Int), .slice ra L rc] 151))
      have HB2 := Lib.hid b2
      clear b1 b2
      go_wp2_with fail
      refine (HS.out _ (by exact HRX.out.below HB2.out) (by exact HRA.out.below HB2.out)).mono ?_
      rintro e w2 ⟨v2, X2, rfl, O2, L2, B2⟩
      go_wp2
      go_ret2
      exact ⟨v2, X2, rfl, own_mono0 O2 HB2.out.size, L2, HB2.out.trans (B2.mono HB2.out.size)⟩
  · have hk' : finL X n = false ∨ isG h = false ∨ inB T 0 512 = false := by
      cases c1 : finL X n
      · exact .inl rfl
      · cases c2 : isG h
        · exact .inr (.inl rfl)
        · cases c3 : inB T 0 512
          · exact .inr (.inr rfl)
          · exact absurd ⟨c1, c2, c3⟩ hk
    have e : ok = false := by
      rw [hB.out]
      rcases hk' with e | e | e
      · rw [e]; rfl
      · rw [e]; simp
      · rw [e]; simp
    subst e
    have e : p = 0 := by rw [hp.out]; rfl
    subst e
    have HS := Lib.hid (fun (w : World) f hX => steps_no xa n cx X h T f w hX hn hk')
    clear hk hk' hB hp
    go_enter Try.func62, Try.ntmps62
    go_wp2_with fail
    refine HF.out.mono ?_
    rintro e w1 (⟨h, rfl, b1⟩ | ⟨_, rfl, b1⟩)
    · cases h
    · have b2 := b1.trans ((Below.refl _ w1).alloc b1.size (.cells #[.int .i64 (n : Int), .slice ra L rc] 151))
      have HB2 := Lib.hid b2
      clear b1 b2
      go_wp2_with fail
      refine (HS.out _ _ (by exact HRX.out.below HB2.out)).mono ?_
      rintro e w2 ⟨rfl, B2⟩
      go_wp2
      go_ret2
      exact OutRet.no (HB2.out.trans (B2.mono HB2.out.size))
end Go.Proofs.Ytmpcalpapkedhaa
