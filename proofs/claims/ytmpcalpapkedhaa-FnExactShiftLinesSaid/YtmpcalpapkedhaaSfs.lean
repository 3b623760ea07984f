
/- Lines that are moved and scaled: the model's function and the program's. -/
import Derived.Test.YtmpcalpapkedhaaSfn
import Derived.Test.YtmpcalpapkedhaaNu5
namespace Go.Proofs.Ytmpcalpapkedhaa
set_option linter.all false
open Go Go.ChangeShapes Go.WideShapes Go.ChangeAt Go.RowKit

theorem ownS_shape {w : World} {B e z n : Nat} {v : Value} {xs : List Value} (hown : w.ownsRow B e z v n xs) : ∃ g ao cap, v = .slice ao n cap ∧ (0 < n → ao = some ⟨g, 0, none⟩) ∧ (0 < n → B ≤ g) := by
  rcases hown.2 with ⟨rfl, rfl⟩ | ⟨g, cap, cur, rfl, hB, _⟩
  · exact ⟨0, none, 0, rfl, fun h => absurd h (Nat.lt_irrefl _), fun h => absurd h (Nat.lt_irrefl _)⟩
  · exact ⟨g, _, cap, rfl, fun _ => rfl, fun _ => hB⟩
theorem shTo_zero (b t : Nat) (X : Nat → Ln) (n : Nat) : rowN X n = rowN (shTo b t 0 X) n := rowN_congr fun j _ => by unfold shTo; rw [if_neg (Nat.not_lt_zero _)]
theorem shTo_all (b t : Nat) (X : Nat → Ln) (n : Nat) : rowN (shTo b t n X) n = rowN (fun i => shLn b t (X i)) n := rowN_congr fun j hj => by unfold shTo; rw [if_pos hj]
set_option maxRecDepth 100000 in
set_option maxHeartbeats 6400000 in
theorem specSf_any (ad : Addr) (n cx b t : Nat) (X : Nat → Ln) (w : World) (hX : RdN w (some ad) n X) (hn : n ≤ 1048576) (p : Nat) (ok : Bool) (hok : Hid (ok = shOk b t X n)) (hp : Hid (p = if ok = true then n else 0)) :
    Calls Try.prog 34 #[.slice (some ad) n cx, .float .f32 b, .float .f32 t] w (RetNL p (fun i => shLn b t (X i)) ok w) := by
  have HL := Lib.hid (fun w hX => l05Lines_any (some ad) n cx X w hX hn _ (Lib.hid rfl))
  have HO := Lib.hid (show ok = shOk b t X n from hok.out)
  cases h1 : (allLn X n && decide (n ≤ 12))
  · have e : ok = false := by rw [hok.out, shOk, h1]; rfl
    subst e
    have e : p = 0 := by rw [hp.out]; rfl
    subst e
    rw [h1] at HL
    go_enter Try.func34, Try.ntmps34
    go_wp2_with fail
    refine (HL.out _ (by exact hX)).mono ?_
    rintro e w1 ⟨rfl, q, rfl⟩
    go_wp2
    go_ret2
    exact RetNL.no (Below.drewN (Below.refl _ _) _)
  rw [h1] at HL
  cases h2 : isFin .f32 b
  · have e : ok = false := by rw [hok.out, shOk, h1, h2]; rfl
    subst e
    have e : p = 0 := by rw [hp.out]; rfl
    subst e
    go_enter Try.func34, Try.ntmps34
    go_wp2_with fail
    refine (HL.out _ (by exact hX)).mono ?_
    rintro e w1 ⟨rfl, q, rfl⟩
    go_wp2_with fail
    refine (l01Finite_any _ _).mono ?_
    rw [h2]
    rintro e w1 ⟨rfl, q2, rfl⟩
    go_wp2
    go_ret2
    exact RetNL.no (Below.drewN (Below.refl _ _) _)
  cases h3 : isFin .f32 t
  · have e : ok = false := by rw [hok.out, shOk, h1, h2, h3]; rfl
    subst e
    have e : p = 0 := by rw [hp.out]; rfl
    subst e
    go_enter Try.func34, Try.ntmps34
    go_wp2_with fail
    refine (HL.out _ (by exact hX)).mono ?_
    rintro e w1 ⟨rfl, q, rfl⟩
    go_wp2_with fail
    refine (l01Finite_any _ _).mono ?_
    rw [h2]
    rintro e w1 ⟨rfl, q2, rfl⟩
    go_wp2_with fail
    refine (l01Finite_any _ _).mono ?_
    rw [h3]
    rintro e w1 ⟨rfl, q3, rfl⟩
    go_wp2
    go_ret2
    exact RetNL.no (Below.drewN (Below.refl _ _) _)
  have h1' := h1
  simp only [Bool.and_eq_true, decide_eq_true_eq] at h1'
  have HA := Lib.hid (allLn_at h1'.1)
  have hn12 := h1'.2
  have HK := Lib.hid (show ok = (allLn (fun i => shLn b t (X i)) n && decide (n ≤ 12)) by rw [hok.out, shOk, h1, h2, h3, decide_eq_true hn12]; simp)
  clear h1 h1' hok HO
  go_enter Try.func34, Try.ntmps34
  go_wp2_with fail
  refine (HL.out _ (by exact hX)).mono ?_
  rintro e w1 ⟨rfl, q, rfl⟩
  go_wp2_with fail
  refine (l01Finite_any _ _).mono ?_
  rw [h2]
  rintro e w1 ⟨rfl, q2, rfl⟩
  go_wp2_with fail
  refine (l01Finite_any _ _).mono ?_
  rw [h3]
  rintro e w1 ⟨rfl, q3, rfl⟩
  go_wp2_with (at_builtin; refine wpL_copyN (B := w.heap.size) rfl rfl rfl rfl (World.ownsRow_made _ #[] 0 (Nat.le_refl _) (Nat.zero_le _) rfl) (by exact hX.below ((Below.drewN (Below.refl _ _) _).alloc (Nat.le_refl _) _)) hn (by simp) ?_; intro v' w1 hown hb; obtain ⟨g, ao, cap, rfl, hao, hBg⟩ := ownS_shape hown)
  have HB : Below w.heap.size w w1 := ((Below.drewN (Below.refl _ w) _).alloc (Nat.le_refl _) _).trans hb
  rw [shTo_zero b t] at hown
  clear hb HL hX
  go_loopw [28] (fun i wr => ∃ k : Nat, k ≤ n ∧ i = .int .i64 (k : Int) ∧ wr.ownsRow w.heap.size 120 4 (.slice ao n cap) n (rowN (shTo b t k X) n) ∧ Below w.heap.size w wr) (fun i _ => n - (intOf i).toNat)
  case atStart => exact ⟨0, Nat.zero_le _, rfl, hown, HB⟩
  case round =>
    obtain ⟨k, hk, rfl, hownk, hBk⟩ := hrel
    clear hown HB
    by_cases hlt : k < n
    · have e := hao (by omega)
      subst e
      have hg := hBg (by omega)
      obtain ⟨c0, c1, c2, c3⟩ := ownN_cells hownk hlt
      have e0 : shTo b t k X k = X k := by unfold shTo; rw [if_neg (Nat.lt_irrefl _)]
      rw [e0] at c0 c1 c2 c3
      obtain ⟨n1, n2⟩ := okLn_num (HA.out k hlt)
      obtain ⟨D1, hD1⟩ : ∃ D, fbin .add .f32 (X k).p b = D := ⟨_, rfl⟩
      obtain ⟨D2, hD2⟩ : ∃ D, fbin .mul .f32 (X k).h t = D := ⟨_, rfl⟩
      have hp1 : ∀ s, pick .f32 D1 s = D1 := fun s => pick_num (by rw [← hD1]; exact nan_add (num_fin n1) h2) s
      have hp2 : ∀ s, pick .f32 D2 s = D2 := fun s => pick_num (by rw [← hD2]; exact nan_mul n2 h3) s
      have HS := Lib.hid (ownN_two b t hownk hlt)
      rw [hD1, hD2] at HS
      have f0 := hownk.frozenAt (k * 4)
      have f1 := hownk.frozenAt (k * 4 + 1)
      have hst := run_store_f32
      have HBk := Lib.hid hBk
      obtain ⟨P, hP⟩ : ∃ P, P = (X k).p := ⟨_, rfl⟩
      obtain ⟨Q, hQ⟩ : ∃ Q, Q = (X k).h := ⟨_, rfl⟩
      rw [← hP] at c0 hD1
      rw [← hQ] at c1 hD2
      clear hownk hBk e0 n1 n2 c2 c3 hP hQ
      go_wp2_with (first | ((with_reducible refine wpL_fbin ?_); refine ⟨_, _, _, rfl, rfl, rfl, fun s n => ?_⟩))
      go_roundw
      case rel => exact ⟨k + 1, by omega, by go_num, HS.out, Below.setCell (Below.drewN (Below.setCell (Below.drewN HBk.out _) (by exact hg) _) _) (by exact hg) _⟩
      case measure => simp [intOf]; omega
    · have hkn : k = n := by omega
      subst hkn
      rw [shTo_all] at hownk
      have O := Lib.hid hownk
      have HBk := Lib.hid hBk
      have HG := Lib.hid (fun (w1 : World) hX => l05Lines_any ao k cap (fun i => shLn b t (X i)) w1 hX hn ok HK)
      clear hownk hBk
      cases ok
      · have e : p = 0 := by rw [hp.out]; rfl
        subst e
        go_wp2_with (go_at_call 93; refine (HG.out _ (by exact rdN_own O.out)).mono ?_; rintro e w' ⟨rfl, q, rfl⟩)
        go_ret2
        exact RetNL.no (Below.drewN HBk.out _)
      · have e : p = k := by rw [hp.out]; rfl
        subst e
        go_wp2_with (go_at_call 93; refine (HG.out _ (by exact rdN_own O.out)).mono ?_; rintro e w' ⟨rfl, q, rfl⟩)
        go_ret2
        exact ⟨_, _, rfl, ownS_below O.out (Below.drewN (Below.refl _ _) _), LikeN.refl _ _, Below.drewN HBk.out _⟩
end Go.Proofs.Ytmpcalpapkedhaa
