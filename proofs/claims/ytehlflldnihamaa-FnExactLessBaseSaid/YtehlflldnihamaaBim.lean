/- The base of a list: as the program takes it. -/
import Derived.Test.YtehlflldnihamaaBsp
import Derived.Test.YtehlflldnihamaaBih
import Derived.Test.YtehlflldnihamaaAlk
import Derived.Test.YtehlflldnihamaaQ5
import Derived.StillTailTactics
namespace Go.Proofs.Ytehlflldnihamaa
open Go Go.ChangeShapes Go.WideShapes Go.ChangeAt Go.RowKit

set_option maxRecDepth 100000 in
set_option maxHeartbeats 6400000 in
theorem implBas_yes (xa : Option Addr) (n cap : Nat) (X : Nat → Nat) (T : Nat) (hT : T ≤ 64) (w : World) (hX : Rd w xa n X) (hk : okLst X n = true) (hn : n ≤ 1048576) (hP : ∀ t i, i < n → PB (basR midI X n t i)) (ok : Bool) (ho : Hid (ok = finL (basR midI X n T) n)) (m : Nat) (hm : Hid (m = if ok = true then n else 0)) :
    Calls Try.prog 65 #[.slice xa n cap, .int .i64 (T : Int)] w (LstRet (basR midI X n T) m ok w) := by
  have HT := Lib.hid (fun w hX => implLst_any xa n cap X w hX hn true (Lib.hid hk.symm))
  have h1 := (okLst_at hk).2.1
  have d0 : decide ((T : Int) < 0) = false := decide_eq_false (by omega)
  have d1 : decide ((64 : Int) < (T : Int)) = false := decide_eq_false (by omega)
  clear hk
  go_enter Try.func65, Try.ntmps65
  go_wp2_with (first | (go_at_call 50; refine (HT.out _ (by exact hX)).mono ?_; rintro e w' ⟨rfl, q, rfl⟩) | (go_at_call 62; refine (clone_any _ _ _ X _ (by exact hX.drew _) h1 hn).mono ?_; rintro e w1 ⟨g, cp, rfl, hown0, hb0⟩))
  have hown : w1.ownsRow w.heap.size 31 1 (.slice (some ⟨g, 0, none⟩) n cp) n (rowOf (basR midI X n 0) n) := hown0
  have hB : Below w.heap.size w w1 := Below.trans (Below.drewN (Below.refl _ w) _) hb0
  clear hown0 hb0
  go_loopw [24] (fun i wr => ∃ t : Nat, t ≤ T ∧ i = .int .i64 (t : Int) ∧ wr.ownsRow w.heap.size 31 1 (.slice (some ⟨g, 0, none⟩) n cp) n (rowOf (basR midI X n t) n) ∧ Below w.heap.size w wr) (fun i _ => T - (intOf i).toNat)
  case atStart => exact ⟨0, Nat.zero_le _, rfl, hown, hB⟩
  case round =>
    obtain ⟨t, ht, rfl, hownt, hBt⟩ := hrel
    clear hown hB
    by_cases hlt : t < T
    · have hgt : decide ((t : Int) < (T : Int)) = true := decide_eq_true (by omega)
      have hrd := rd_own hownt
      go_wp2_with (go_at_call 62; refine (clone_any _ _ _ _ _ (by exact hrd) h1 hn).mono ?_; rintro e w2 ⟨g2, cp2, rfl, hownN, hbN⟩)
      have hlow := own_lt hownt
      have hge := own_ge hownN
      have hge0 := own_ge hownt
      have hne : g2 ≠ g := by omega
      have hownB := own_mono0 hownN (B' := w.heap.size) hBt.size
      have hB2 := hBt.trans (hbN.mono hBt.size)
      have hownM := own_below hownt hbN
      rw [basZ_start] at hownM
      clear hownN hbN hownt hBt hlow hge hrd
      obtain ⟨B, hBB⟩ : ∃ B, B = basR midI X n t := ⟨_, rfl⟩
      obtain ⟨B', hBB'⟩ : ∃ B', B' = basR midI X n (t + 1) := ⟨_, rfl⟩
      have HS := Lib.hid (show ∀ i, B' i = if (1 ≤ i ∧ i + 1 < n) ∧ lo (midI (B (i - 1)) (B (i + 1))) (B i) = true then midI (B (i - 1)) (B (i + 1)) else B i from fun i => by rw [hBB, hBB', basR_succ])
      have HP := Lib.hid (show ∀ i, i < n → PB (B i) from fun i hi => by rw [hBB]; exact hP t i hi)
      have HE := Lib.hid (show ∀ c, n ≤ c + 1 → rowOf (basZ B B' c) n = rowOf (basR midI X n (t + 1)) n from fun c hc => by rw [hBB, hBB']; exact basZ_end midI X n t c hc)
      rw [← hBB] at hownB
      rw [← hBB, ← hBB'] at hownM
      clear hBB hBB'
      go_loopw [8] (fun i wq => ∃ c : Nat, (c = 0 ∨ c + 1 < n) ∧ i = .int .i64 ((c : Int) + 1) ∧ wq.ownsRow w.heap.size 31 1 (.slice (some ⟨g, 0, none⟩) n cp) n (rowOf (basZ B B' (c + 1)) n) ∧ wq.ownsRow w.heap.size 31 1 (.slice (some ⟨g2, 0, none⟩) n cp2) n (rowOf B n) ∧ Below w.heap.size w wq) (fun i _ => n - (intOf i).toNat)
      case atStart => exact ⟨0, .inl rfl, rfl, hownM, hownB, hB2⟩
      case round =>
        obtain ⟨c, hc, rfl, hoZ, hoB, hBq⟩ := hrel
        clear hownM hownB hB2
        by_cases hcn : c + 2 < n
        · have r0 := own_cell hoB (show c < n by omega)
          have r2 := own_cell hoB (show c + 2 < n by omega)
          have hS := HS.out (c + 1)
          rw [show c + 1 - 1 = c by omega, show c + 1 + 1 = c + 2 by omega] at hS
          have HH := Lib.hid (fun w' => half7_any (B c) (B (c + 2)) w' (HP.out c (by omega)) (HP.out (c + 2) (by omega)))
          obtain ⟨M, hM⟩ : ∃ M, M = midI (B c) (B (c + 2)) := ⟨_, rfl⟩
          rw [← hM] at hS HH
          have u1 : (0 : Int) ≤ (c : Int) + 1 := by omega
          have u2 : (0 : Int) ≤ (c : Int) + 2 := by omega
          have v0 : (c : Int) < (n : Int) := by omega
          have v1 : (c : Int) + 1 < (n : Int) := by omega
          have v2 : (c : Int) + 2 < (n : Int) := by omega
          have v3 : (c : Int) + 1 + 1 = (c : Int) + 2 := by omega
          have d2 : decide ((c : Int) + 1 < (n : Int) - 1) = true := decide_eq_true (by omega)
          have HZ := Lib.hid hoZ
          have HB := Lib.hid hoB
          have HBq := Lib.hid hBq
          clear hM hoZ hoB hBq hc
          have hwc : IntKind.i64.wrap (c : Int) = (c : Int) := by rw [IntKind.wrap_i64]; omega
          have hwd : IntKind.i64.wrap ((c : Int) + 2) = (c : Int) + 2 := by rw [IntKind.wrap_i64]; omega
          have ht2 : ((c : Int) + 2).toNat = c + 2 := by omega
          have hz1 : basZ B B' (c + 1) (c + 1) = B (c + 1) := if_neg (by omega)
          cases hz : lo M (B (c + 1))
          · have hz' : (FloatKind.f32.format.order M (B (c + 1)) == some .lt) = false := hz
            have HN := Lib.hid (show rowOf (basZ B B' (c + 1)) n = rowOf (basZ B B' (c + 1 + 1)) n from basZ_same (by rw [hS, hz, if_neg (by simp)]))
            clear hz hS
            go_wp2_with fail
            go_still_tail 10, (by kernel_rfl)
            change wpList _ _ _ _ _ wr.drew
            have hEw : wr.drew = wr.drewN 1 := rfl
            rw [hEw]
            clear hEw
            go_wp2_with (go_at_call 93; refine (HH.out _).mono ?_; rintro e w3 ⟨rfl, B3⟩; have hZ3 := own_below (own_drew HZ.out 1) B3; have hB3 := own_below (own_drew HB.out 1) B3; have HB3 := Lib.hid ((Below.drewN HBq.out 1).trans (B3.mono (Below.drewN HBq.out 1).size)); have z1 := own_cell hZ3 (show c + 1 < n by omega); rw [hz1] at z1; have st := fun u => own_store0 hZ3 (show c + 1 < n by omega) u; have HZ3 := Lib.hid hZ3; have HO3 := Lib.hid hB3; clear hZ3 hB3 B3)
            go_roundw
            case rel => exact ⟨c + 1, .inr (by omega), by go_num, by rw [← HN.out]; exact HZ3.out, HO3.out, HB3.out⟩
            case measure => simp [intOf]; omega
          · have hz' : (FloatKind.f32.format.order M (B (c + 1)) == some .lt) = true := hz
            have HN := Lib.hid (basZ_step (B := B) (B' := B') (c := c + 1) (n := n) (v := M) (by rw [hS, hz, if_pos ⟨⟨by omega, by omega⟩, rfl⟩]))
            clear hz hS
            go_wp2_with fail
            go_still_tail 10, (by kernel_rfl)
            change wpList _ _ _ _ _ wr.drew
            have hEw : wr.drew = wr.drewN 1 := rfl
            rw [hEw]
            clear hEw
            go_wp2_with (go_at_call 93; refine (HH.out _).mono ?_; rintro e w3 ⟨rfl, B3⟩; have hZ3 := own_below (own_drew HZ.out 1) B3; have hB3 := own_below (own_drew HB.out 1) B3; have HB3 := Lib.hid ((Below.drewN HBq.out 1).trans (B3.mono (Below.drewN HBq.out 1).size)); have z1 := own_cell hZ3 (show c + 1 < n by omega); rw [hz1] at z1; have st := fun u => own_store0 hZ3 (show c + 1 < n by omega) u; have HZ3 := Lib.hid hZ3; have HO3 := Lib.hid hB3; clear hZ3 hB3 B3)
            go_roundw
            case rel => exact ⟨c + 1, .inr (by omega), by go_num, by rw [← HN.out]; exact own_stored HZ3.out (c + 1) _, own_other HO3.out hne ((Only.refl g _).setCell (c + 1) _), Below.setCell HB3.out hge0 _⟩
            case measure => simp [intOf]; omega
        · have d2 : decide ((c : Int) + 1 < (n : Int) - 1) = false := decide_eq_false (by omega)
          have HN := Lib.hid (HE.out (c + 1) (by omega))
          have HB := Lib.hid hBq
          have HZ := Lib.hid hoZ
          clear hoZ hoB hBq
          go_wp2
          go_roundw
          case rel => exact ⟨t + 1, by omega, by go_num, by rw [← HN.out]; exact HZ.out, HB.out⟩
          case measure => simp [intOf]; omega
    · obtain rfl : t = T := by omega
      have hz : decide ((t : Int) < (t : Int)) = false := decide_eq_false (by omega)
      obtain ⟨B, hB⟩ : ∃ B, B = basR midI X n t := ⟨_, rfl⟩
      have HF := Lib.hid (show LstRet B (if finL B n = true then n else 0) (finL B n) w = LstRet (basR midI X n t) m ok w by rw [hm.out, ho.out, hB])
      rw [← hB] at hownt
      clear ho hm hB hlt
      go_wp2_with fail
      refine (onlyFinite_any _ _ n B _ (by exact hownt) hn).mono ?_
      rintro e w4 ⟨rfl, q3, rfl⟩
      have HV := Lib.hid (lstGive (R := B) (Z := B) (w := w) (fun _ _ => rfl) hownt hn hBt)
      cases hfz : finL B n
      · rw [hfz] at HV HF
        go_wp2
        go_ret2
        rw [← HF.out]
        obtain ⟨a, b, h3, h4, h5, h6, h7⟩ := HV.out
        exact ⟨a, b, h3, h4, h5, h6, Below.drewN h7 _⟩
      · rw [hfz] at HV HF
        go_wp2
        go_ret2
        rw [← HF.out]
        obtain ⟨a, b, h3, h4, h5, h6, h7⟩ := HV.out
        exact ⟨a, b, h3, h4, h5, h6, Below.drewN h7 _⟩
end Go.Proofs.Ytehlflldnihamaa
