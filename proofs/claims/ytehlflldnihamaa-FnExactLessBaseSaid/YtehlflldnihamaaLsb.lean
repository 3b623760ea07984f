/- Of any list and rounds the program tells the list less its base just where the model does, and the same; the list is not changed: for all arguments. -/
import Derived.Test.YtehlflldnihamaaSame
import Derived.Test.YtehlflldnihamaaBsl
import Derived.Test.YtehlflldnihamaaBim
import Derived.Test.YtehlflldnihamaaLaw
namespace Go.Proofs.Ytehlflldnihamaa
open Go Go.ChangeShapes Go.WideShapes Go.ChangeAt Go.RowKit

set_option maxRecDepth 100000 in
set_option maxHeartbeats 6400000 in
theorem implBas_any (xa : Option Addr) (n cx : Nat) (X : Nat → Nat) (T : Int) (w : World) (hX : Rd w xa n X) (hn : n ≤ 1048576) (hw : ∀ i, i < n → X i < 4294967296) (ok : Bool) (ho : Hid (ok = basOk X n T)) (m : Nat) (hm : Hid (m = if ok = true then n else 0)) :
    Calls Try.prog 65 #[.slice xa n cx, .int .i64 T] w (LstRet (basR midI X n T.toNat) m ok w) := by
  have HNO := Lib.hid (fun (h : ok = false) w' (hb : Below w.heap.size w w') => show LstRet (basR midI X n T.toNat) m ok w (.returned (.tuple #[.slice none 0 0, .bool false])) w' by
    rw [hm.out, h, if_neg (by simp)]; exact lstNo hb)
  cases hk : okLst X n
  · have HT := Lib.hid (fun w hX => implLst_any xa n cx X w hX hn false (Lib.hid hk.symm))
    have HN := Lib.hid (HNO.out (by rw [ho.out, basOk, hk]; rfl))
    clear hk
    go_enter Try.func65, Try.ntmps65
    go_wp2_with (go_at_call 50; refine (HT.out _ (by exact hX)).mono ?_; rintro e w' ⟨rfl, q, rfl⟩)
    go_ret2
    refine HN.out _ ?_
    (repeat (first | with_reducible exact Below.refl _ _ | with_reducible refine Below.drewN ?_ _ | with_reducible refine Below.setCell ?_ (by simp; try omega) _ | with_reducible refine Below.alloc ?_ (by simp; try omega) _))
  · have HT := Lib.hid (fun w hX => implLst_any xa n cx X w hX hn true (Lib.hid hk.symm))
    by_cases h0 : T < 0
    · have d0 : decide (T < 0) = true := decide_eq_true h0
      have HN := Lib.hid (HNO.out (by rw [ho.out, basOk, inB_lo h0, Bool.and_false]; rfl))
      clear hk
      go_enter Try.func65, Try.ntmps65
      go_wp2_with (go_at_call 50; refine (HT.out _ (by exact hX)).mono ?_; rintro e w' ⟨rfl, q, rfl⟩)
      go_ret2
      refine HN.out _ ?_
      (repeat (first | with_reducible exact Below.refl _ _ | with_reducible refine Below.drewN ?_ _ | with_reducible refine Below.setCell ?_ (by simp; try omega) _ | with_reducible refine Below.alloc ?_ (by simp; try omega) _))
    · by_cases h1 : 64 < T
      · have d0 : decide (T < 0) = false := decide_eq_false h0
        have d1 : decide (64 < T) = true := decide_eq_true h1
        have HN := Lib.hid (HNO.out (by rw [ho.out, basOk, inB_hi h1, Bool.and_false]; rfl))
        clear hk
        go_enter Try.func65, Try.ntmps65
        go_wp2_with (go_at_call 50; refine (HT.out _ (by exact hX)).mono ?_; rintro e w' ⟨rfl, q, rfl⟩)
        go_ret2
        refine HN.out _ ?_
        (repeat (first | with_reducible exact Below.refl _ _ | with_reducible refine Below.drewN ?_ _ | with_reducible refine Below.setCell ?_ (by simp; try omega) _ | with_reducible refine Below.alloc ?_ (by simp; try omega) _))
      · obtain ⟨t, rfl⟩ : ∃ t : Nat, T = (t : Int) := ⟨T.toNat, by omega⟩
        have h3 := okLst_at hk
        exact implBas_yes xa n cx X t (by omega) w hX hk hn (fun t i hi => (basR_BI hw h3.1 t i hi).2.1) ok (Lib.hid (by rw [ho.out, basOk, hk, inB_yes (by omega) (by omega), Int.toNat_natCast, basR_fin hw h3.1]; rfl)) m hm
set_option maxRecDepth 100000 in
set_option maxHeartbeats 6400000 in
theorem implLsb_any (xa : Option Addr) (n cx : Nat) (X : Nat → Nat) (T : Int) (w : World) (hX : Rd w xa n X) (hn : n ≤ 1048576) (hw : ∀ i, i < n → X i < 4294967296) (ok : Bool) (ho : Hid (ok = (basOk X n T && finL (lsbR X n T) n))) (m : Nat) (hm : Hid (m = if ok = true then n else 0)) :
    Calls Try.prog 28 #[.slice xa n cx, .int .i64 T] w (LstRet (lsbR X n T) m ok w) := by
  have HNO := Lib.hid (fun (h : ok = false) w' (hb : Below w.heap.size w w') => show LstRet (lsbR X n T) m ok w (.returned (.tuple #[.slice none 0 0, .bool false])) w' by
    rw [hm.out, h, if_neg (by simp)]; exact lstNo hb)
  obtain ⟨b, hb⟩ : ∃ b, b = basOk X n T := ⟨_, rfl⟩
  have HB := Lib.hid (fun w hX => implBas_any xa n cx X T w hX hn hw b (Lib.hid hb) _ (Lib.hid rfl))
  cases b
  · have HN := Lib.hid (HNO.out (by rw [ho.out, ← hb]; rfl))
    clear hb
    go_enter Try.func28, Try.ntmps28
    go_wp2_with fail
    refine (HB.out _ (by exact hX)).mono ?_
    rintro e w1 ⟨v1, Y1, rfl, O1, L1, m1, B1⟩
    go_wp2
    go_ret2
    exact HN.out _ B1
  · have HO := Lib.hid (show ok = finL (lsbR X n T) n by rw [ho.out, ← hb]; rfl)
    have hall := hb.symm
    unfold basOk at hall
    simp only [Bool.and_eq_true] at hall
    have h1 := okLst_at hall.1.1
    rw [if_pos rfl] at HB
    obtain ⟨R, hR⟩ : ∃ R, R = lsbR X n T := ⟨_, rfl⟩
    have HRR := Lib.hid (show ∀ Y, Like Y (basR midI X n T.toNat) n → ∀ j, j < n → lesR X Y j = R j from fun Y hY j hj => by rw [hR, lsbR, ← basR_les hw h1.1 T.toNat j hj, lesR, lesR, fbin_congr rfl (hY j hj)])
    rw [← hR] at HO ⊢
    have HF := Lib.hid (show LstRet R (if finL R n = true then n else 0) (finL R n) w = LstRet R m ok w by rw [hm.out, HO.out])
    clear hb hall h1 HNO hR
    clear ho hm
    go_enter Try.func28, Try.ntmps28
    go_wp2_with fail
    refine (HB.out _ (by exact hX)).mono ?_
    rintro e w1 ⟨v1, Y1, rfl, O1, L1, m1, B1⟩
    have hRj := HRR.out Y1 L1
    obtain ⟨ya, cy, rfl, _, _, R1⟩ := rd_of_own O1
    go_wp2_with fail
    refine (les_any _ _ n _ _ X Y1 _ (by exact hX.below B1) (by exact R1) hn).mono ?_
    rintro e w2 ⟨v2, Z, rfl, O2, L2, B2⟩
    have hLR : Like Z R n := fun j hj => by rw [L2.like j hj, hRj j hj]
    have hown2 := own_mono0 O2 (B' := w.heap.size) B1.size
    have hB2 := B1.trans (B2.mono B1.size)
    go_wp2_with fail
    refine (onlyFinite_any _ _ n Z _ (by exact hown2) hn).mono ?_
    rintro e w4 ⟨rfl, q3, rfl⟩
    have HV := Lib.hid (lstGive (w := w) hLR hown2 hn hB2)
    cases hfz : finL Z n
    · rw [hfz] at HV
      go_wp2
      go_ret2
      rw [← HF.out]
      obtain ⟨a, b, h3, h4, h5, h6, h7⟩ := HV.out
      exact ⟨a, b, h3, h4, h5, h6, Below.drewN h7 _⟩
    · rw [hfz] at HV
      go_wp2
      go_ret2
      rw [← HF.out]
      obtain ⟨a, b, h3, h4, h5, h6, h7⟩ := HV.out
      exact ⟨a, b, h3, h4, h5, h6, Below.drewN h7 _⟩
end Go.Proofs.Ytehlflldnihamaa
