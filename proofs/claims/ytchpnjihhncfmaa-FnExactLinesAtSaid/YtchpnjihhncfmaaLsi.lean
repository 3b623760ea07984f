/- How high lines are at a place: as the program tells it. -/
import Derived.Test.YtchpnjihhncfmaaLsp
import Derived.Test.YtchpnjihhncfmaaLpu
namespace Go.Proofs.Ytchpnjihhncfmaa
open Go Go.ChangeShapes Go.WideShapes Go.ChangeAt Go.RowKit

def liD (X : Nat → Ln) (x n : Nat) : Nat := sumV (fun j => lnI (X j) x) n
theorem liD_succ (X : Nat → Ln) (x k : Nat) : fbin .add .f32 (liD X x k) (lnI (X k) x) = liD X x (k + 1) := rfl
theorem lnM_lt (l : Ln) (x : Nat) : lnM l x < 4294967296 := by
  unfold lnM
  split
  · exact fbin_lt _ _ _
  · split
    · exact fbin_lt _ _ _
    · split
      · exact fbin_lt _ _ _
      · unfold lnR roofW
        split
        · decide
        · exact fbin_lt _ _ _
theorem liD_eq {X : Nat → Ln} {x n : Nat} (hl : ∀ k, k < n → okLn (X k) = true) (hx : isFin .f32 x = true) : liD X x n = lsD X x n :=
  sumV_zeq (fun k => lnM_lt _ _) n fun k hk => ln_zeq (hl k hk) hx
theorem liD_nf {X : Nat → Ln} {x n k : Nat} (hl : ∀ k, k < n → okLn (X k) = true) (hx : isFin .f32 x = true) (hk : k < n) (h : isFin .f32 (lnI (X k) x) = false) : isFin .f32 (lsD X x n) = false := by
  refine sumV_nf (j := k) ?_ n hk
  rw [(ln_zeq (hl k hk) hx).fin]
  exact h
theorem LineAt_yes (l : Ln) (x : Nat) (w : World) (hl : okLn l = true) (hx : isFin .f32 x = true) (R : Nat) (hR : R = lnI l x) (h : isFin .f32 R = true) :
    Calls Try.prog 93 #[.agg #[.float .f32 l.p, .float .f32 l.h, .float .f32 l.d, .int .i64 l.k], .float .f32 x] w fun e w' => e = .returned (.tuple #[.float .f32 R, .bool true]) ∧ Below w.heap.size w w' := by
  refine (LineAt_any l x w hl hx R (Lib.hid hR)).mono ?_
  rintro e w' ⟨s, rfl, hb⟩
  refine ⟨?_, hb⟩
  have e1 : numQ R = R := by simp [numQ, h]
  rw [e1, h, pick_num (num_fin h)]
theorem LineAt_no (l : Ln) (x : Nat) (w : World) (hl : okLn l = true) (hx : isFin .f32 x = true) (R : Nat) (hR : R = lnI l x) (h : isFin .f32 R = false) :
    Calls Try.prog 93 #[.agg #[.float .f32 l.p, .float .f32 l.h, .float .f32 l.d, .int .i64 l.k], .float .f32 x] w fun e w' => e = .returned (.tuple #[.float .f32 0, .bool false]) ∧ Below w.heap.size w w' := by
  refine (LineAt_any l x w hl hx R (Lib.hid hR)).mono ?_
  rintro e w' ⟨s, rfl, hb⟩
  refine ⟨?_, hb⟩
  have e1 : numQ R = 0 := by simp [numQ, h]
  rw [e1, h, pick_nul]
set_option maxRecDepth 100000 in
set_option maxHeartbeats 3200000 in
theorem implLinesAt_any (xa : Option Addr) (n cap : Nat) (X : Nat → Ln) (x : Nat) (w : World) (hX : RdN w xa n X) (hn : n ≤ 1048576) (R : Nat) (ok : Bool) (hR : Hid (R = lsV X n x)) (ho : Hid (ok = lsB X n x)) :
    Calls Try.prog 39 #[.slice xa n cap, .float .f32 x] w (LnRet R ok w) := by
  have HS := Lib.hid (fun w hX => areLines_any xa n cap X 12 w hX hn _ (Lib.hid rfl))
  cases c : (allLn X n && decide (n ≤ 12))
  · rw [c] at HS
    have HR := Lib.hid (show ∀ w', Below w.heap.size w w' → LnRet R ok w (.returned (.tuple #[.float .f32 0, .bool false])) w' from fun w' hb => ⟨0, by rw [hR.out, ho.out, lsV, lsB, lsOk, c]; simp [pick_nul], hb⟩)
    clear c hR ho
    go_enter Try.func39, Try.ntmps39
    go_wp2_with (go_at_call 92; refine (HS.out _ (by exact hX)).mono ?_; rintro e w' ⟨rfl, B0⟩)
    go_ret2
    exact HR.out _ B0
  · rw [c] at HS
    cases d : isFin .f32 x
    · have HR := Lib.hid (show ∀ w', Below w.heap.size w w' → LnRet R ok w (.returned (.tuple #[.float .f32 0, .bool false])) w' from fun w' hb => ⟨0, by rw [hR.out, ho.out, lsV, lsB, lsOk, c, d]; simp [pick_nul], hb⟩)
      clear c hR ho
      go_enter Try.func39, Try.ntmps39
      go_wp2_with (first | (go_at_call 92; refine (HS.out _ (by exact hX)).mono ?_; rintro e w' ⟨rfl, B0⟩) | (first | (go_at_call 81; refine (IsFinite_any _ _).mono ?_; rintro e w' ⟨rfl, q, rfl⟩)))
      go_ret2
      refine HR.out _ ?_
      (repeat (first | with_reducible exact Below.refl _ _ | with_reducible refine Below.drewN ?_ _ | with_reducible refine Below.setCell ?_ (by simp; try omega) _ | with_reducible refine Below.alloc ?_ (by simp; try omega) _))
      exact B0
    · have hl : ∀ k, k < n → okLn (X k) = true := allLn_at (by simp only [Bool.and_eq_true] at c; exact c.1)
      obtain ⟨D, hD⟩ : ∃ D, D = lsD X x n := ⟨_, rfl⟩
      have eR : R = numQ D := by rw [hR.out, lsV, if_pos (by rw [lsOk, c, d]; rfl), hD]
      have eo : ok = isFin .f32 D := by rw [ho.out, lsB, lsOk, c, d, hD]; rfl
      have HR := Lib.hid (show ∀ s w', Below w.heap.size w w' → LnRet R ok w (.returned (.tuple #[.float .f32 (pick .f32 (numQ D) s), .bool (isFin .f32 D)])) w' from fun s w' hb => ⟨s, by rw [eR, eo], hb⟩)
      have HZ := Lib.hid (show isFin .f32 D = false → ∀ w', Below w.heap.size w w' → LnRet R ok w (.returned (.tuple #[.float .f32 0, .bool false])) w' from fun h w' hb => ⟨0, by rw [eR, eo, h]; simp [numQ, h, pick_nul], hb⟩)
      have HQ := Lib.hid (fun s w => numI_any D s w)
      have HL := Lib.hid hl
      have HD := Lib.hid hD
      clear c hR ho hl eR eo hD
      obtain ⟨xb, xo, hxa, hcx⟩ := id hX
      have HX := Lib.hid hcx
      clear hcx
      have hp := fun op => fbin_pick_l op .f32
      go_enter Try.func39, Try.ntmps39
      go_wp2_with (first | (go_at_call 92; refine (HS.out _ (by exact hX)).mono ?_; rintro e w1 ⟨rfl, B0⟩) | (first | (go_at_call 81; refine (IsFinite_any _ _).mono ?_; rintro e w' ⟨rfl, q, rfl⟩)))
      have hB1 : Below w.heap.size w (w1.drewN q) := Below.drewN B0 q
      go_loopw [6, 21] (fun v i wr => ∃ k s : Nat, k ≤ n ∧ i = .int .i64 k ∧ Below w.heap.size w wr ∧ v = .float .f32 (pick .f32 (liD X x k) s)) (fun _ i _ => n - (intOf i).toNat)
      case atStart => exact ⟨0, 0, Nat.zero_le _, rfl, hB1, by rw [show liD X x 0 = 0 from rfl, pick_num (by decide +kernel)]⟩
      case round =>
        obtain ⟨k, s, hk, rfl, hBk, rfl⟩ := hrel
        by_cases hlt : k < n
        · have e := hxa (by omega)
          subst e
          obtain ⟨r0, r1, r2, r3⟩ := LnAt.below (HX.out k hlt) hBk
          have hsz := hBk.size
          have hA := hBk.alloc hsz (.cells #[.float .f32 (X k).p, .float .f32 (X k).h, .float .f32 (X k).d, .int .i64 (X k).k] 105)
          have HA := Lib.hid hA
          clear hA
          have hst := run_store_f32
          have hst2 := run_store_i64
          obtain ⟨V, hV⟩ : ∃ V, V = lnI (X k) x := ⟨_, rfl⟩
          cases g : isFin .f32 V
          · have HV := Lib.hid (fun w => LineAt_no (X k) x w (HL.out k hlt) d V hV g)
            have HN := Lib.hid (HZ.out (by rw [HD.out]; exact liD_nf HL.out d hlt (by rw [← hV]; exact g)))
            clear hV g
            go_wp2_with (go_at_call 93; refine (HV.out _).mono ?_; rintro e w2 ⟨rfl, B2⟩)
            go_ret2
            exact HN.out _ (HA.out.trans (B2.mono HA.out.size))
          · have HV := Lib.hid (fun w => LineAt_yes (X k) x w (HL.out k hlt) d V hV g)
            have hd := liD_succ X x k
            obtain ⟨D', hD'⟩ : ∃ D, D = liD X x k := ⟨_, rfl⟩
            rw [← hD', ← hV] at hd
            have HD2 := Lib.hid hD'
            have HE := Lib.hid hd
            rw [← HD2.out]
            clear hD' hV hd g
            go_wp2_with (first | (go_at_call 93; refine (HV.out _).mono ?_; rintro e w2 ⟨rfl, B2⟩) | ((with_reducible refine wpL_fbin ?_); refine ⟨_, _, _, rfl, rfl, rfl, fun s n => ?_⟩))
            go_roundw
            case rel =>
              refine ⟨k + 1, _, by omega, by go_num, ?_, by rw [HE.out]⟩
              exact Below.drewN (HA.out.trans (B2.mono HA.out.size)) _
            case measure => simp [intOf]; omega
        · have hkn : k = n := by omega
          subst hkn
          have e : liD X x k = D := by rw [HD.out]; exact liD_eq HL.out d
          rw [e]
          go_wp2_with (go_at_call 87; refine (HQ.out _ _).mono ?_; rintro e w' ⟨s2, m2, rfl, rfl⟩)
          go_ret2
          exact HR.out _ _ (Below.drewN hBk _)
end Go.Proofs.Ytchpnjihhncfmaa
