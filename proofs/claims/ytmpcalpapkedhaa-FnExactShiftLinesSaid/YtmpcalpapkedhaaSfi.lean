
/- Lines that are moved and scaled: the program's function. -/
import Derived.Test.YtmpcalpapkedhaaSfs
namespace Go.Proofs.Ytmpcalpapkedhaa
set_option linter.all false
open Go Go.ChangeShapes Go.WideShapes Go.ChangeAt Go.RowKit

theorem ownS_mono {w : World} {B B' e z n : Nat} {v : Value} {xs : List Value} (h : w.ownsRow B e z v n xs) (hB : B' ≤ B) : w.ownsRow B' e z v n xs := by
  refine ⟨h.1, ?_⟩
  rcases h.2 with h2 | ⟨b, cap, cur, e1, e2, e3⟩
  · exact .inl h2
  · exact .inr ⟨b, cap, cur, e1, Nat.le_trans hB e2, e3⟩
set_option maxRecDepth 100000 in
set_option maxHeartbeats 6400000 in
theorem implSf_any (ad : Addr) (n cx b t : Nat) (X : Nat → Ln) (w : World) (hX : RdN w (some ad) n X) (hn : n ≤ 1048576) (p : Nat) (ok : Bool) (hok : Hid (ok = shOk b t X n)) (hp : Hid (p = if ok = true then n else 0)) :
    Calls Try.prog 36 #[.slice (some ad) n cx, .float .f32 b, .float .f32 t] w (RetNL p (fun i => shLn b t (X i)) ok w) := by
  have HL := Lib.hid (fun w hX => areLines_any (some ad) n cx X 12 w hX hn _ (Lib.hid rfl))
  have hf := finL_two b t
  cases h1 : (allLn X n && decide (n ≤ 12))
  · have e : ok = false := by rw [hok.out, shOk, h1]; rfl
    subst e
    have e : p = 0 := by rw [hp.out]; rfl
    subst e
    rw [h1] at HL
    clear hf
    go_enter Try.func36, Try.ntmps36
    go_wp2_with fail
    refine (HL.out _ (by exact hX)).mono ?_
    rintro e w1 ⟨rfl, B1⟩
    go_wp2
    go_ret2
    exact RetNL.no B1
  rw [h1] at HL
  cases h2 : finL (duo b t) 2
  · have e : ok = false := by
      rw [hok.out, shOk, h1]
      have h5 : (isFin .f32 b && isFin .f32 t) = false := hf.symm.trans h2
      cases hb : isFin .f32 b
      · rfl
      · rw [hb] at h5
        rw [show isFin .f32 t = false from h5]; rfl
    subst e
    have e : p = 0 := by rw [hp.out]; rfl
    subst e
    clear hf
    go_enter Try.func36, Try.ntmps36
    go_wp2_with fail
    refine (HL.out _ (by exact hX)).mono ?_
    rintro e w1 ⟨rfl, B1⟩
    go_wp2_with (first | (go_at_call 97; refine (allFinite_any _ _ _ (duo _ _) _ (by exact rd_two' _ _ _ _ (by simp)) (by omega)).mono ?_; rintro e w' ⟨rfl, q, rfl⟩))
    go_ret2
    exact RetNL.no (Below.drewN (B1.trans ((Below.refl _ _).alloc B1.size _)) _)
  have hf' : isFin .f32 b = true ∧ isFin .f32 t = true := by rw [h2] at hf; simpa using hf.symm
  obtain ⟨h3, h4⟩ := hf'
  have h1' := h1
  simp only [Bool.and_eq_true, decide_eq_true_eq] at h1'
  have HA := Lib.hid (allLn_at h1'.1)
  have hn12 := h1'.2
  have HK := Lib.hid (show ok = (allLn (fun i => shLn b t (X i)) n && decide (n ≤ 12)) by rw [hok.out, shOk, h1, h3, h4, decide_eq_true hn12]; simp)
  clear h1 h1' hok hf
  go_enter Try.func36, Try.ntmps36
  go_wp2_with fail
  refine (HL.out _ (by exact hX)).mono ?_
  rintro e w1 ⟨rfl, B1⟩
  go_wp2_with (first | (go_at_call 97; refine (allFinite_any _ _ _ (duo _ _) _ (by exact rd_two' _ _ _ _ (by simp)) (by omega)).mono ?_; rintro e w' ⟨rfl, q, rfl⟩))
  have BA := (B1.trans ((Below.refl _ _).alloc B1.size (.cells #[.float .f32 b, .float .f32 t] 22)))
  refine (cloneN_any ad n cx X _ (by exact hX.below (Below.drewN BA _)) hn).mono ?_
  rintro e2 w2 ⟨v', rfl, hown, hb⟩
  obtain ⟨g, ao, cap, rfl, hao, hBg⟩ := ownS_shape hown
  have HB : Below w.heap.size w w2 := (Below.drewN BA _).trans (hb.mono BA.size)
  have hBg' : 0 < n → w.heap.size ≤ g := fun h => Nat.le_trans BA.size (hBg h)
  have hown' : w2.ownsRow w.heap.size 120 4 (.slice ao n cap) n (rowN (shTo b t 0 X) n) := by
    rw [← shTo_zero]
    exact ownS_mono hown BA.size
  clear hb HL hX hBg hown B1 BA
  go_wp2
  go_loopw [24] (fun i wr => ∃ k : Nat, k ≤ n ∧ i = .int .i64 (k : Int) ∧ wr.ownsRow w.heap.size 120 4 (.slice ao n cap) n (rowN (shTo b t k X) n) ∧ Below w.heap.size w wr) (fun i _ => n - (intOf i).toNat)
  case atStart => exact ⟨0, Nat.zero_le _, rfl, hown', HB⟩
  case round =>
    obtain ⟨k, hk, rfl, hownk, hBk⟩ := hrel
    clear hown' HB
    by_cases hlt : k < n
    · have e := hao (by omega)
      subst e
      have hg := hBg' (by omega)
      obtain ⟨c0, c1, c2, c3⟩ := ownN_cells hownk hlt
      have e0 : shTo b t k X k = X k := by unfold shTo; rw [if_neg (Nat.lt_irrefl _)]
      rw [e0] at c0 c1 c2 c3
      obtain ⟨n1, n2⟩ := okLn_num (HA.out k hlt)
      obtain ⟨D1, hD1⟩ : ∃ D, fbin .add .f32 (X k).p b = D := ⟨_, rfl⟩
      obtain ⟨D2, hD2⟩ : ∃ D, fbin .mul .f32 (X k).h t = D := ⟨_, rfl⟩
      have hp1 : ∀ s, pick .f32 D1 s = D1 := fun s => pick_num (by rw [← hD1]; exact nan_add (num_fin n1) h3) s
      have hp2 : ∀ s, pick .f32 D2 s = D2 := fun s => pick_num (by rw [← hD2]; exact nan_mul n2 h4) s
      have HS := Lib.hid (ownN_two b t hownk hlt)
      rw [hD1, hD2] at HS
      have f0 := hownk.frozenAt (k * 4)
      have f1 := hownk.frozenAt (k * 4 + 1)
      have hst := run_store_f32
      have HBk := Lib.hid hBk
      obtain ⟨P, hP⟩ : ∃ P, P = (X k).p := ⟨_, rfl⟩
      obtain ⟨Q, hQ⟩ : ∃ Q, Q = (X k).h := ⟨_, rfl⟩
      rw [← hP] at c0 hD1
      rw [← hQ] at c1 hD2
      clear hownk hBk e0 n1 n2 c2 c3 hP hQ
      go_wp2_with (first | ((with_reducible refine wpL_fbin ?_); refine ⟨_, _, _, rfl, rfl, rfl, fun s n => ?_⟩))
      go_roundw
      case rel => exact ⟨k + 1, by omega, by go_num, HS.out, Below.setCell (Below.drewN (Below.setCell (Below.drewN HBk.out _) (by exact hg) _) _) (by exact hg) _⟩
      case measure => simp [intOf]; omega
    · have hkn : k = n := by omega
      subst hkn
      rw [shTo_all] at hownk
      have O := Lib.hid hownk
      have HBk := Lib.hid hBk
      have HG := Lib.hid (fun (w1 : World) hX => areLines_any ao k cap (fun i => shLn b t (X i)) 12 w1 hX hn ok HK)
      clear hownk hBk
      cases ok
      · have e : p = 0 := by rw [hp.out]; rfl
        subst e
        go_wp2_with (go_at_call 96; refine (HG.out _ (by exact rdN_own O.out)).mono ?_; rintro e w' ⟨rfl, B9⟩)
        go_ret2
        exact RetNL.no (HBk.out.trans (B9.mono HBk.out.size))
      · have e : p = k := by rw [hp.out]; rfl
        subst e
        go_wp2_with (go_at_call 96; refine (HG.out _ (by exact rdN_own O.out)).mono ?_; rintro e w' ⟨rfl, B9⟩)
        go_ret2
        exact ⟨_, _, rfl, ownS_below O.out B9, LikeN.refl _ _, HBk.out.trans (B9.mono HBk.out.size)⟩
end Go.Proofs.Ytmpcalpapkedhaa
