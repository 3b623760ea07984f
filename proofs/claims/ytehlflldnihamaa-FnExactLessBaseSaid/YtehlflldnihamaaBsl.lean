/- A list less its base: as the model tells it. -/
import Derived.Test.YtehlflldnihamaaBsp
import Derived.Test.YtehlflldnihamaaAlk
import Derived.Test.YtehlflldnihamaaPush
import Derived.Test.YtehlflldnihamaaPuR
import Derived.Deep.RegionLaw
namespace Go.Proofs.Ytehlflldnihamaa
open Go Go.ChangeShapes Go.WideShapes Go.ChangeAt Go.RowKit

def basOk (X : Nat → Nat) (n : Nat) (T : Int) : Bool := okLst X n && inB T 0 64 && finL (basR midS X n T.toNat) n
def lsbR (X : Nat → Nat) (n : Nat) (T : Int) : Nat → Nat := lesR X (basR midS X n T.toNat)
set_option maxRecDepth 100000 in
set_option maxHeartbeats 6400000 in
theorem specBas_any (xa : Option Addr) (n cx : Nat) (X : Nat → Nat) (T : Int) (w : World) (hX : Rd w xa n X) (hn : n ≤ 1048576) (hw : ∀ i, i < n → X i < 4294967296) (ok : Bool) (ho : Hid (ok = basOk X n T)) (m : Nat) (hm : Hid (m = if ok = true then n else 0)) :
    Calls Try.prog 64 #[.slice xa n cx, .int .i64 T] w (LstRet (basR midS X n T.toNat) m ok w) := by
  have HNO := Lib.hid (fun (h : ok = false) w' (hb : Below w.heap.size w w') => show LstRet (basR midS X n T.toNat) m ok w (.returned (.tuple #[.slice none 0 0, .bool false])) w' by
    rw [hm.out, h, if_neg (by simp)]; exact lstNo hb)
  cases hk : okLst X n
  · have HT := Lib.hid (fun w hX => specLst_any xa n cx X w hX hn false (Lib.hid hk.symm))
    have HN := Lib.hid (HNO.out (by rw [ho.out, basOk, hk]; rfl))
    clear hk
    go_enter Try.func64, Try.ntmps64
    go_wp2_with (go_at_call 48; refine (HT.out _ (by exact hX)).mono ?_; rintro e w' ⟨rfl, q, rfl⟩)
    go_ret2
    refine HN.out _ ?_
    (repeat (first | with_reducible exact Below.refl _ _ | with_reducible refine Below.drewN ?_ _ | with_reducible refine Below.setCell ?_ (by simp; try omega) _ | with_reducible refine Below.alloc ?_ (by simp; try omega) _))
  · have HT := Lib.hid (fun w hX => specLst_any xa n cx X w hX hn true (Lib.hid hk.symm))
    cases hi : inB T 0 64
    · have HN := Lib.hid (HNO.out (by rw [ho.out, basOk, hk, hi]; rfl))
      clear hk
      go_enter Try.func64, Try.ntmps64
      go_wp2_with (first | (go_at_call 48; refine (HT.out _ (by exact hX)).mono ?_; rintro e w' ⟨rfl, q, rfl⟩) | (first | (go_at_call 60; refine (l00In_any _ _ _ _).mono ?_; rintro e w' ⟨rfl, rfl⟩)))
      go_ret2
      refine HN.out _ ?_
      (repeat (first | with_reducible exact Below.refl _ _ | with_reducible refine Below.drewN ?_ _ | with_reducible refine Below.setCell ?_ (by simp; try omega) _ | with_reducible refine Below.alloc ?_ (by simp; try omega) _))
    · have h2 := inB_rng hi
      obtain ⟨t, rfl⟩ : ∃ t : Nat, T = (t : Int) := ⟨T.toNat, by omega⟩
      have h3 := okLst_at hk
      have HB := Lib.hid (fun w hX => l07Base_any xa n cx X t (by omega) w hX h3.2.1 hn (fun t i hi => (basR_BI hw h3.1 t i hi).1))
      have HO := Lib.hid (show ok = finL (basR midS X n t) n by rw [ho.out, basOk, hk, hi]; rfl)
      rw [Int.toNat_natCast] at HNO ⊢
      obtain ⟨B, hB⟩ : ∃ B, B = basR midS X n t := ⟨_, rfl⟩
      rw [← hB] at HB HO HNO ⊢
      have HF := Lib.hid (show LstRet B (if finL B n = true then n else 0) (finL B n) w = LstRet B m ok w by rw [hm.out, HO.out])
      clear hk h3 hB
      go_enter Try.func64, Try.ntmps64
      go_wp2_with (first | (go_at_call 48; refine (HT.out _ (by exact hX)).mono ?_; rintro e w' ⟨rfl, q, rfl⟩) | (first | (go_at_call 60; refine (l00In_any _ _ _ _).mono ?_; rintro e w' ⟨rfl, rfl⟩)))
      refine (HB.out _ (by exact hX)).mono ?_
      rintro e w1 ⟨g, cp, rfl, O1, B1⟩
      go_wp2_with fail
      refine (l07Give_any _ _ n B _ (by exact O1) hn).mono ?_
      rintro e w' ⟨rfl, q2, rfl⟩
      have HV := Lib.hid (lstGive (R := B) (Z := B) (w := w) (fun _ _ => rfl) O1 hn (Below.trans (Below.drewN (Below.refl _ w) q) B1))
      cases hfz : finL B n
      · rw [hfz] at HV HF
        go_wp2
        go_ret2
        rw [← HF.out]
        obtain ⟨a, b, h3, h4, h5, h6, h7⟩ := HV.out
        exact ⟨a, b, h3, h4, h5, h6, Below.drewN h7 _⟩
      · rw [hfz] at HV HF
        go_wp2
        go_ret2
        rw [← HF.out]
        obtain ⟨a, b, h3, h4, h5, h6, h7⟩ := HV.out
        exact ⟨a, b, h3, h4, h5, h6, Below.drewN h7 _⟩
set_option maxRecDepth 100000 in
set_option maxHeartbeats 6400000 in
theorem specLsb_any (xa : Option Addr) (n cx : Nat) (X : Nat → Nat) (T : Int) (w : World) (hX : Rd w xa n X) (hn : n ≤ 1048576) (hw : ∀ i, i < n → X i < 4294967296) (ok : Bool) (ho : Hid (ok = (basOk X n T && finL (lsbR X n T) n))) (m : Nat) (hm : Hid (m = if ok = true then n else 0)) :
    Calls Try.prog 27 #[.slice xa n cx, .int .i64 T] w (LstRet (lsbR X n T) m ok w) := by
  obtain ⟨i0, hi, hz0, hz1, hz2⟩ := info_parts infoF
  have HNO := Lib.hid (fun (h : ok = false) w' (hb : Below w.heap.size w w') => show LstRet (lsbR X n T) m ok w (.returned (.tuple #[.slice none 0 0, .bool false])) w' by
    rw [hm.out, h, if_neg (by simp)]; exact lstNo hb)
  obtain ⟨b, hb⟩ : ∃ b, b = basOk X n T := ⟨_, rfl⟩
  have HB := Lib.hid (fun w hX => specBas_any xa n cx X T w hX hn hw b (Lib.hid hb) _ (Lib.hid rfl))
  cases b
  · have HN := Lib.hid (HNO.out (by rw [ho.out, ← hb]; rfl))
    clear hb
    go_enter Try.func27, Try.ntmps27
    go_wp2_with fail
    refine (HB.out _ (by exact hX)).mono ?_
    rintro e w1 ⟨v1, Y1, rfl, O1, L1, m1, B1⟩
    go_wp2
    go_ret2
    exact HN.out _ B1
  · have HO := Lib.hid (show ok = finL (lsbR X n T) n by rw [ho.out, ← hb]; rfl)
    have hall := hb.symm
    unfold basOk at hall
    simp only [Bool.and_eq_true] at hall
    have h1 := okLst_at hall.1.1
    have hfB := hall.2
    have HFX := Lib.hid (finL_at h1.1)
    rw [if_pos rfl] at HB
    obtain ⟨R, hR⟩ : ∃ R, R = lsbR X n T := ⟨_, rfl⟩
    have HRR := Lib.hid (show ∀ Y, Like Y (basR midS X n T.toNat) n → finL Y n = true ∧ ∀ j, j < n → fbin .sub .f32 (X j) (Y j) = R j from fun Y hY => ⟨by rw [finL_like hY, hfB], fun j hj => by rw [hR, lsbR, lesR, fbin_congr rfl (hY j hj)]⟩)
    rw [← hR] at HO ⊢
    have HF := Lib.hid (show LstRet R (if finL R n = true then n else 0) (finL R n) w = LstRet R m ok w by rw [hm.out, HO.out])
    obtain ⟨xb, xo, hxa, hcx⟩ := id hX
    have e := hxa (by omega)
    subst e
    have HX := Lib.hid hcx
    have hpos := h1.2.1
    clear hb hall h1 hfB hcx hxa HNO hR
    go_enter Try.func27, Try.ntmps27
    go_wp2_with fail
    refine (HB.out _ (by exact hX)).mono ?_
    rintro e w1 ⟨v1, Y1, rfl, O1, L1, m1, B1⟩
    obtain ⟨hfY, hRj⟩ := HRR.out Y1 L1
    have HRj := Lib.hid hRj
    have HFY := Lib.hid (finL_at hfY)
    obtain ⟨ya, cy, rfl, _, _, R1⟩ := rd_of_own O1
    obtain ⟨yb, yo, hya, hcy⟩ := R1
    have e := hya hpos
    subst e
    have HY := Lib.hid hcy
    clear hfY hRj hcy L1
    go_wp2
    go_loopw [8, 21] (fun v i wr => ∃ (c : Nat) (Z : Nat → Nat), c ≤ n ∧ i = .int .i64 (c : Int) ∧ wr.ownsRow w1.heap.size 31 1 v c (rowOf Z c) ∧ Like Z R c ∧ Below w1.heap.size w1 wr) (fun _ i _ => n - (intOf i).toNat)
    case atStart => exact ⟨0, fun _ => 0, Nat.zero_le _, rfl, own_empty w1 _, fun _ h => absurd h (Nat.not_lt_zero _), Below.alloc (Below.refl _ _) (Nat.le_refl _) _⟩
    case round =>
      obtain ⟨c, Z, hc, rfl, hownk, hL, hBk⟩ := hrel
      have hsz := hBk.size
      by_cases hltc : c < n
      · have c0 := (B1.cell (p := ⟨xb, xo + c, none⟩) (World.block_lt_of_cell? w _ (HX.out c hltc))).trans (HX.out c hltc)
        have c1 := (hBk.cell (p := ⟨xb, xo + c, none⟩) (World.block_lt_of_cell? w1 _ c0)).trans c0
        have c2 := (hBk.cell (p := ⟨yb, yo + c, none⟩) (World.block_lt_of_cell? w1 _ (HY.out c hltc))).trans (HY.out c hltc)
        clear c0
        have b2 : (c : Int) < (n : Int) := by omega
        obtain ⟨D, hD⟩ : ∃ D, fbin .sub .f32 (X c) (Y1 c) = D := ⟨_, rfl⟩
        have nD : isNaN .f32 D = false := by rw [← hD]; exact nan_sub (num_fin (HFX.out c hltc)) (HFY.out c hltc)
        have q1 := fun t => run_numop (op := .sub) rfl t _ _ _ hD nD
        have HL := Lib.hid (like_push hL (show D = pick .f32 (R c) 0 by rw [← HRj.out c hltc, hD, pick_num nD]))
        clear hD nD
        go_wp2_with fail
        go_region_law (refine step_push (w0 := wr.drew) (u := D) (ad := wr.heap.size) hi hz0 hz1 hz2 rfl (s := .tmp 24) (x := .tmp 34) rfl rfl rfl (by rfl) (by exact hownk) (by omega) (by exact hsz) (fun v2 w2 hown2 hB2 => ?_))
        all_goals go_wp2
        all_goals go_roundw
        all_goals first | exact ⟨c + 1, _, by omega, by go_num, hown2, HL.out, Below.trans (Below.drewN hBk _) hB2⟩ | (simp [intOf]; omega)
      · have hck : c = n := by omega
        subst hck
        go_wp2_with fail
        refine (l07Give_any _ _ c Z _ (by exact hownk) (by omega)).mono ?_
        rintro e w' ⟨rfl, q2, rfl⟩
        have HV := Lib.hid (lstGive (w := w) hL (own_mono0 hownk B1.size) (by omega) (B1.trans (hBk.mono B1.size)))
        cases hfz : finL Z c
        · rw [hfz] at HV
          go_wp2
          go_ret2
          rw [← HF.out]
          obtain ⟨a, b, h3, h4, h5, h6, h7⟩ := HV.out
          exact ⟨a, b, h3, h4, h5, h6, Below.drewN h7 _⟩
        · rw [hfz] at HV
          go_wp2
          go_ret2
          rw [← HF.out]
          obtain ⟨a, b, h3, h4, h5, h6, h7⟩ := HV.out
          exact ⟨a, b, h3, h4, h5, h6, Below.drewN h7 _⟩
end Go.Proofs.Ytehlflldnihamaa
