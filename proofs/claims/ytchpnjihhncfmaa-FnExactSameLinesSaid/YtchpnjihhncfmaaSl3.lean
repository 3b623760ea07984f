/- Whether two lists of lines are the same: both sides. -/
import Derived.Test.YtchpnjihhncfmaaSl2
import Derived.BigQuiet
namespace Go.Proofs.Ytchpnjihhncfmaa
open Go Go.ChangeShapes Go.WideShapes Go.ChangeAt Go.RowKit

def eqLns (X : Nat → Ln) (n : Nat) (Y : Nat → Ln) (n' : Nat) : Bool := decide (n = n') && (List.range n).all fun i => sameLn (X i) (Y i)
theorem eqLns_len {X Y : Nat → Ln} {n n' : Nat} (h : n ≠ n') : eqLns X n Y n' = false := by simp [eqLns, h]
theorem eqLns_no {X Y : Nat → Ln} {n k : Nat} (hk : k < n) (h : sameLn (X k) (Y k) = false) : eqLns X n Y n = false := by
  have : ((List.range n).all fun i => sameLn (X i) (Y i)) = false := by
    rw [List.all_eq_false]
    exact ⟨k, List.mem_range.2 hk, by simp [h]⟩
  rw [eqLns, this, Bool.and_false]
theorem eqLns_yes {X Y : Nat → Ln} {n : Nat} (h : ∀ k, k < n → sameLn (X k) (Y k) = true) : eqLns X n Y n = true := by
  have : ((List.range n).all fun i => sameLn (X i) (Y i)) = true := by
    rw [List.all_eq_true]
    exact fun k hk => h k (List.mem_range.1 hk)
  rw [eqLns, this, decide_eq_true rfl]
  rfl
set_option maxRecDepth 100000 in
set_option maxHeartbeats 3200000 in
theorem equalLn_any (xa ya : Option Addr) (n n' cx cy : Nat) (X Y : Nat → Ln) (w : World) (hX : RdN w xa n X) (hY : RdN w ya n' Y) (wX : ∀ i, i < n → (X i).wf) (wY : ∀ i, i < n' → (Y i).wf) (hn : n ≤ 1048576) (hn' : n' ≤ 1048576) (R : Bool) (hR : Hid (R = eqLns X n Y n')) :
    Calls Try.prog 104 #[.slice xa n cx, .slice ya n' cy, .func (.func 105) #[] #[]] w fun e w' => e = .returned (.bool R) ∧ Below w.heap.size w w' := by
  by_cases hl : n = n'
  · subst hl
    obtain ⟨xb, xo, hxa, hcx⟩ := hX
    obtain ⟨yb, yo, hya, hcy⟩ := hY
    have HX := Lib.hid hcx
    have HY := Lib.hid hcy
    have HW := Lib.hid wX
    have HV := Lib.hid wY
    clear hcx hcy wX wY
    go_enter Try.func104, Try.ntmps104
    go_wp2
    go_loopw [17] (fun i wr => ∃ k : Nat, k ≤ n ∧ i = .int .i64 k ∧ Below w.heap.size w wr ∧ Hid (∀ j, j < k → sameLn (X j) (Y j) = true)) (fun i _ => n - (intOf i).toNat)
    case atStart => exact ⟨0, Nat.zero_le _, rfl, Below.refl _ _, Lib.hid fun j hj => absurd hj (Nat.not_lt_zero _)⟩
    case round =>
      obtain ⟨k, hk, rfl, hBk, HF⟩ := hrel
      by_cases hlt : k < n
      · have e := hxa (by omega)
        subst e
        have e := hya (by omega)
        subst e
        obtain ⟨r0, r1, r2, r3⟩ := LnAt.below (HX.out k hlt) hBk
        obtain ⟨s0, s1, s2, s3⟩ := LnAt.below (HY.out k hlt) hBk
        have l0 := World.block_lt_of_cell? _ _ s0
        have hsz := hBk.size
        have hst := run_store_f32
        have hst2 := run_store_i64
        have HA := Lib.hid ((hBk.alloc hsz (.cells #[.float .f32 (X k).p, .float .f32 (X k).h, .float .f32 (X k).d, .int .i64 (X k).k] 105)).alloc (by simp; omega) (.cells #[.float .f32 (Y k).p, .float .f32 (Y k).h, .float .f32 (Y k).d, .int .i64 (Y k).k] 105))
        cases c : sameLn (X k) (Y k)
        · have HO := Lib.hid (fun w => implSl1_any (X k) (Y k) (HW.out k hlt) (HV.out k hlt) false (Lib.hid c.symm) w)
          have HN := Lib.hid (show R = false by rw [hR.out, eqLns_no hlt c])
          clear c
          go_wp2_with (go_at_call 105; refine (HO.out _).mono ?_; rintro e w2 ⟨rfl, B0⟩)
          go_ret
          exact ⟨ret_bool HN.out.symm, HA.out.trans (B0.mono HA.out.size)⟩
        · have HO := Lib.hid (fun w => implSl1_any (X k) (Y k) (HW.out k hlt) (HV.out k hlt) true (Lib.hid c.symm) w)
          have HN := Lib.hid (show ∀ j, j < k + 1 → sameLn (X j) (Y j) = true from fun j hj => by
            by_cases hj' : j < k
            · exact HF.out j hj'
            · rw [show j = k by omega]; exact c)
          clear c
          go_wp2_with (go_at_call 105; refine (HO.out _).mono ?_; rintro e w2 ⟨rfl, B0⟩)
          go_roundw
          case rel => exact ⟨k + 1, by omega, by go_num, HA.out.trans (B0.mono HA.out.size), HN⟩
          case measure => simp [intOf]; omega
      · have hkn : k = n := by omega
        subst hkn
        have HN := Lib.hid (show R = true by rw [hR.out, eqLns_yes HF.out])
        go_wp2
        go_ret
        exact ⟨ret_bool HN.out.symm, hBk⟩
  · have HN := Lib.hid (show R = false by rw [hR.out, eqLns_len hl])
    have d1 : ((n : Int) != (n' : Int)) = true := by simpa using (by omega : ¬ (n : Int) = (n' : Int))
    go_enter Try.func104, Try.ntmps104
    go_wp2
    go_ret
    exact ⟨ret_bool HN.out.symm, Below.refl _ _⟩
set_option maxRecDepth 100000 in
theorem implSL_any (xa ya : Option Addr) (n n' cx cy : Nat) (X Y : Nat → Ln) (w : World) (hX : RdN w xa n X) (hY : RdN w ya n' Y) (wX : ∀ i, i < n → (X i).wf) (wY : ∀ i, i < n' → (Y i).wf) (hn : n ≤ 1048576) (hn' : n' ≤ 1048576) (R : Bool) (hR : Hid (R = eqLns X n Y n')) :
    Calls Try.prog 47 #[.slice xa n cx, .slice ya n' cy] w fun e w' => e = .returned (.bool R) ∧ Below w.heap.size w w' := by
  go_enter Try.func47, Try.ntmps47
  go_wp2_with fail
  refine (equalLn_any _ _ _ _ _ _ X Y _ hX hY wX wY hn hn' R hR).mono ?_
  rintro e w' ⟨rfl, hb⟩
  go_wp2
  go_ret
  exact ⟨rfl, hb⟩
end Go.Proofs.Ytchpnjihhncfmaa
