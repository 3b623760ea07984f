
/- Whether a list has edges: as the model asks it, and as the program does. -/
import Derived.Test.YtogmcinaoemnpabEds
namespace Go.Proofs.Ytogmcinaoemnpab
open Go Go.ChangeShapes Go.WideShapes Go.ChangeAt Go.RowKit

def okEd (L : Int) (l : Ed) : Bool := (inB l.a 0 (L - 1) && inB l.b 0 (L - 1)) && (!(decide (l.a = l.b)) && isFin .f32 l.p)
def okEds (L : Int) (X : Nat → Ed) (n : Nat) : Bool := (inB L 1 12 && decide (n ≤ 32)) && (List.range n).all fun i => okEd L (X i)
theorem okEds_no {L : Int} {X : Nat → Ed} {n k : Nat} (hk : k < n) (h : okEd L (X k) = false) : okEds L X n = false := by
  have : ((List.range n).all fun i => okEd L (X i)) = false := by
    rw [List.all_eq_false]
    exact ⟨k, List.mem_range.2 hk, by simp [h]⟩
  rw [okEds, this, Bool.and_false]
theorem okEds_yes {L : Int} {X : Nat → Ed} {n : Nat} (h : ∀ k, k < n → okEd L (X k) = true) : okEds L X n = (inB L 1 12 && decide (n ≤ 32)) := by
  have : ((List.range n).all fun i => okEd L (X i)) = true := by
    rw [List.all_eq_true]
    exact fun k hk => h k (List.mem_range.1 hk)
  rw [okEds, this, Bool.and_true]
theorem okEds_lev {L : Int} {X : Nat → Ed} {n : Nat} (h : (inB L 1 12 && decide (n ≤ 32)) = false) : okEds L X n = false := by
  rw [okEds, h, Bool.false_and]
theorem quiet_q {P : Program} {f : FuncId} {args : Array Value} {w : World} {m n : Nat} {v : Value} (h : Calls P f args (w.drewN (m + n)) fun e w' => e = .returned v ∧ ∃ q, w' = (w.drewN (m + n)).drewN q) : Calls P f args (w.drewN (m + n)) fun e w'' => e = .returned v ∧ ∃ k, w'' = w.drewN (m + k) :=
  h.mono fun _ _ ⟨he, q, hq⟩ => ⟨he, n + q, by rw [hq, World.drewN_drewN, Nat.add_assoc]⟩
theorem eq_dec (a b : Int) : (a == b) = decide (a = b) := by
  rw [Bool.eq_iff_iff]; simp
set_option maxRecDepth 100000 in
set_option maxHeartbeats 6400000 in
theorem specEds_any (L : Int) (_ : (Lit.int .i64 L).wf = true) (xa : Option Addr) (n cap : Nat) (X : Nat → Ed) (w : World) (hX : RdE w xa n X) (hn : n ≤ 1048576) (R : Bool) (hR : Hid (R = okEds L X n)) :
    Calls Try.prog 55 #[.int .i64 L, .slice xa n cap] w fun e w' => e = .returned (.bool R) ∧ ∃ m, w' = w.drewN m := by
  cases c1 : inB L 1 12
  · have HQ := Lib.hid (show false = R by rw [hR.out, okEds_lev (by rw [c1]; rfl)])
    go_enter Try.func55, Try.ntmps55
    go_wp2_with (first | (go_at_call 69; refine (l00In_any _ _ _ _).mono ?_; rintro e w' ⟨rfl, rfl⟩))
    go_ret
    exact ⟨ret_bool HQ.out, 0, rfl⟩
  · obtain ⟨hl1, hl2⟩ := inB_rng c1
    by_cases h32 : n ≤ 32
    · have d32 : decide (32 < (n : Int)) = false := decide_eq_false (by omega)
      obtain ⟨xb, xo, hxa, hcx⟩ := hX
      have HX := Lib.hid hcx
      clear hcx
      go_enter Try.func55, Try.ntmps55
      go_wp2_with (first | (go_at_call 69; refine (l00In_any _ _ _ _).mono ?_; rintro e w' ⟨rfl, rfl⟩))
      go_loopw [17] (fun i wr => ∃ k m : Nat, k ≤ n ∧ i = .int .i64 k ∧ wr = w.drewN m ∧ Hid (∀ j, j < k → okEd L (X j) = true)) (fun i _ => n - (intOf i).toNat)
      case atStart => exact ⟨0, 0, Nat.zero_le _, rfl, rfl, Lib.hid fun j hj => absurd hj (Nat.not_lt_zero _)⟩
      case round =>
        obtain ⟨k, m, hk, rfl, rfl, HF⟩ := hrel
        by_cases hlt : k < n
        · have e := hxa (by omega)
          subst e
          obtain ⟨r0, r1, r2⟩ := HX.out k hlt
          obtain ⟨A, hA⟩ : ∃ A, A = (X k).a := ⟨_, rfl⟩
          obtain ⟨B, hB⟩ : ∃ B, B = (X k).b := ⟨_, rfl⟩
          obtain ⟨P, hP⟩ : ∃ P, P = (X k).p := ⟨_, rfl⟩
          have hok : okEd L (X k) = ((inB A 0 (L - 1) && inB B 0 (L - 1)) && (!(A == B) && isFin .f32 P)) := by rw [okEd, ← hA, ← hB, ← hP, eq_dec]
          rw [← hA] at r0
          rw [← hB] at r1
          rw [← hP] at r2
          clear hA hB hP
          have HOK := Lib.hid hok
          clear hok
          have hi0 : (k : Int) < (n : Int) := by omega
          have hwr : IntKind.i64.wrap (L - 1) = L - 1 := IntWalk.i64_in _ (by omega)
          have fin (hz : okEd L (X k) = false) : okEds L X n = false := okEds_no hlt hz
          have HFin := Lib.hid fin
          clear fin
          cases c1 : inB A 0 (L - 1)
          · skip
            have HQ := Lib.hid (show false = R by rw [hR.out, HFin.out (by rw [HOK.out]; (first | (simp [c1, c2, c3, c4, c5, c6, c7]; done) | (simp [c1, c2, c3, c4, c5, c6]; done) | (simp [c1, c2, c3, c4, c5]; done) | (simp [c1, c2, c3, c4]; done) | (simp [c1, c2, c3]; done) | (simp [c1, c2]; done) | (simp [c1]; done)))])
            clear HFin HOK
            go_wp2_with fail
            go_quiet ((first | (go_at_call 69; refine (l00In_any _ _ _ _).mono ?_; rintro e w' ⟨rfl, rfl⟩; exact ⟨rfl, _, rfl⟩) | (go_at_call 56; exact quiet_q (l01Finite_any _ _))))
            go_wp2
            go_ret
            exact ⟨ret_bool HQ.out, m + nq, by rw [World.drewN_drewN]⟩
          · skip
            cases c2 : inB B 0 (L - 1)
            · skip
              have HQ := Lib.hid (show false = R by rw [hR.out, HFin.out (by rw [HOK.out]; (first | (simp [c1, c2, c3, c4, c5, c6, c7]; done) | (simp [c1, c2, c3, c4, c5, c6]; done) | (simp [c1, c2, c3, c4, c5]; done) | (simp [c1, c2, c3, c4]; done) | (simp [c1, c2, c3]; done) | (simp [c1, c2]; done) | (simp [c1]; done)))])
              clear HFin HOK
              go_wp2_with fail
              go_quiet ((first | (go_at_call 69; refine (l00In_any _ _ _ _).mono ?_; rintro e w' ⟨rfl, rfl⟩; exact ⟨rfl, _, rfl⟩) | (go_at_call 56; exact quiet_q (l01Finite_any _ _))))
              go_wp2
              go_ret
              exact ⟨ret_bool HQ.out, m + nq, by rw [World.drewN_drewN]⟩
            · skip
              cases c3 : (A == B)
              rotate_left
              · skip
                have HQ := Lib.hid (show false = R by rw [hR.out, HFin.out (by rw [HOK.out]; (first | (simp [c1, c2, c3, c4, c5, c6, c7]; done) | (simp [c1, c2, c3, c4, c5, c6]; done) | (simp [c1, c2, c3, c4, c5]; done) | (simp [c1, c2, c3, c4]; done) | (simp [c1, c2, c3]; done) | (simp [c1, c2]; done) | (simp [c1]; done)))])
                clear HFin HOK
                go_wp2_with fail
                go_quiet ((first | (go_at_call 69; refine (l00In_any _ _ _ _).mono ?_; rintro e w' ⟨rfl, rfl⟩; exact ⟨rfl, _, rfl⟩) | (go_at_call 56; exact quiet_q (l01Finite_any _ _))))
                go_wp2
                go_ret
                exact ⟨ret_bool HQ.out, m + nq, by rw [World.drewN_drewN]⟩
              · skip
                cases c4 : isFin .f32 P
                · skip
                  have HQ := Lib.hid (show false = R by rw [hR.out, HFin.out (by rw [HOK.out]; (first | (simp [c1, c2, c3, c4, c5, c6, c7]; done) | (simp [c1, c2, c3, c4, c5, c6]; done) | (simp [c1, c2, c3, c4, c5]; done) | (simp [c1, c2, c3, c4]; done) | (simp [c1, c2, c3]; done) | (simp [c1, c2]; done) | (simp [c1]; done)))])
                  clear HFin HOK
                  go_wp2_with fail
                  go_quiet ((first | (go_at_call 69; refine (l00In_any _ _ _ _).mono ?_; rintro e w' ⟨rfl, rfl⟩; exact ⟨rfl, _, rfl⟩) | (go_at_call 56; exact quiet_q (l01Finite_any _ _))))
                  go_wp2
                  go_ret
                  exact ⟨ret_bool HQ.out, m + nq, by rw [World.drewN_drewN]⟩
                · skip
                  have HG := Lib.hid (show ∀ j, j < k + 1 → okEd L (X j) = true from fun j hj => by
                    by_cases hj' : j < k
                    · exact HF.out j hj'
                    · rw [show j = k by omega, HOK.out, c1, c2, c3, c4]; rfl)
                  clear HFin HOK
                  go_wp2_with fail
                  go_quiet ((first | (go_at_call 69; refine (l00In_any _ _ _ _).mono ?_; rintro e w' ⟨rfl, rfl⟩; exact ⟨rfl, _, rfl⟩) | (go_at_call 56; exact quiet_q (l01Finite_any _ _))))
                  go_wp2
                  go_roundw
                  case rel => exact ⟨k + 1, m + nq, by omega, by go_num, by first | rfl | rw [World.drewN_drewN], HG⟩
                  case measure => simp [intOf]; omega
        · have hkn : k = n := by omega
          subst hkn
          have HQ := Lib.hid (show true = R by rw [hR.out, okEds_yes HF.out, c1, decide_eq_true h32]; rfl)
          go_wp2
          go_ret
          exact ⟨ret_bool HQ.out, m, rfl⟩
    · have d32 : decide (32 < (n : Int)) = true := decide_eq_true (by omega)
      have HQ := Lib.hid (show false = R by rw [hR.out, okEds_lev (by rw [decide_eq_false h32, Bool.and_false])])
      go_enter Try.func55, Try.ntmps55
      go_wp2_with (first | (go_at_call 69; refine (l00In_any _ _ _ _).mono ?_; rintro e w' ⟨rfl, rfl⟩))
      go_ret
      exact ⟨ret_bool HQ.out, 0, rfl⟩
end Go.Proofs.Ytogmcinaoemnpab
