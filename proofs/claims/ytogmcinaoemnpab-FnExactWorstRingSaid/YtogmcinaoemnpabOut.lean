
/- Lists of numbers that a call makes: what is told of them; the laws' own marking of them, and the look whether the marks are held. -/
import Derived.Test.YtogmcinaoemnpabFinL
namespace Go.Proofs.Ytogmcinaoemnpab
open Go Go.ChangeShapes Go.WideShapes Go.ChangeAt Go.RowKit

/-- X is R, but for the bits of not-a-numbers. -/
def Like (X R : Nat → Nat) (n : Nat) : Prop := ∀ j, j < n → canon .f32 (X j) = canon .f32 (R j)
theorem like_push {X R : Nat → Nat} {k u s : Nat} (h : Like X R k) (hu : u = pick .f32 (R k) s) : Like (fun j => if j = k then u else X j) R (k + 1) := by
  intro j hj
  by_cases hjk : j = k
  · subst hjk; simp only [if_true]; rw [hu, canon_pick]
  · simp only [if_neg hjk]; exact h j (by omega)
theorem row_push (X : Nat → Nat) (k u : Nat) : rowOf X k ++ [.float .f32 u] = rowOf (fun j => if j = k then u else X j) (k + 1) := by
  rw [rowOf_succ, if_pos rfl]
  congr 1
  exact rowOf_congr fun i hi => by rw [if_neg (by omega)]
theorem isFin_canon (x : Nat) : isFin .f32 (canon .f32 x) = isFin .f32 x := by
  obtain h | h := Bool.eq_false_or_eq_true (isNaN .f32 x)
  · have e : canon .f32 x = qnan .f32 := canon_nan h
    have h1 : isFin .f32 x = false := by have h' : (FloatKind.f32.decode x).isNaN = true := h; simp [isFin, h']
    rw [e, h1]; decide +kernel
  · rw [canon_num h]
theorem finL_like {X R : Nat → Nat} {n : Nat} (h : Like X R n) : finL X n = finL R n := by
  cases hf : finL R n
  · cases hx : finL X n
    · rfl
    · exfalso
      have : finL R n = true := finL_yes fun k hk => by
        have := finL_at hx k hk
        rw [← isFin_canon, h k hk, isFin_canon] at this
        exact this
      rw [hf] at this
      cases this
  · exact finL_yes fun k hk => by
      have := finL_at hf k hk
      rw [← isFin_canon, ← h k hk, isFin_canon] at this
      exact this
/-- A list that the call made, and whether it succeeded. -/
def OutRet (R : Nat → Nat) (n : Nat) (ok : Bool) (w : World) (e : Ending) (w' : World) : Prop :=
  ∃ v X, e = .returned (.tuple #[v, .bool ok]) ∧ w'.ownsRow w.heap.size 36 1 v n (rowOf X n) ∧ Like X R n ∧ Below w.heap.size w w'
theorem OutRet.no {R : Nat → Nat} {w w' : World} (hb : Below w.heap.size w w') : OutRet R 0 false w (.returned (.tuple #[.slice none 0 0, .bool false])) w' :=
  ⟨_, fun _ => 0, rfl, World.ownsRow_nil _ _ _ _, fun _ h => absurd h (Nat.not_lt_zero _), hb⟩
/-- The mark of place j. -/
def mk (k0 : Int) (j : Nat) : Nat := floatOfInt .f32 (k0 + j)
theorem mk_self (k0 : Int) (j : Nat) : (FloatKind.f32.format.order (mk k0 j) (mk k0 j) != some .eq) = false := by
  rw [order_neq_self]
  exact isNaN_encode .f32 (.number (decide (k0 + j < 0)) (k0 + j).natAbs 0) rfl
/-- The marks, written. -/
def Marked (B : Nat) (v : Value) (n : Nat) (k0 : Int) (w : World) (e : Ending) (w' : World) : Prop :=
  e = .returned (.int .i64 (k0 + n)) ∧ w'.ownsRow B 36 1 v n (rowOf (mk k0) n) ∧ Below B w w'
theorem ret_i64 {a b : Int} (h : a = b) : Ending.returned (.int .i64 a) = .returned (.int .i64 b) := by rw [h]
set_option maxHeartbeats 1600000 in
theorem markF_any (B : Nat) (v : Value) (n : Nat) (X : Nat → Nat) (k0 : Int) (w : World) (hown : w.ownsRow B 36 1 v n (rowOf X n)) (hn : n ≤ 1048576) (hk0 : 0 ≤ k0) (hk1 : k0 ≤ 100000000) :
    Calls Try.prog 25 #[v, .int .i64 k0] w (Marked B v n k0 w) := by
  obtain ⟨g, ao, cap, rfl, hao, hBg⟩ : ∃ g ao cap, v = .slice ao n cap ∧ (0 < n → ao = some ⟨g, 0, none⟩) ∧ (0 < n → B ≤ g) := by
    rcases hown.2 with ⟨rfl, rfl⟩ | ⟨g, cap, cur, rfl, hB, _⟩
    · exact ⟨0, none, 0, rfl, fun h => absurd h (Nat.lt_irrefl _), fun h => absurd h (Nat.lt_irrefl _)⟩
    · exact ⟨g, _, cap, rfl, fun _ => rfl, fun _ => hB⟩
  go_enter Try.func25, Try.ntmps25
  go_wp2
  go_loopw [1, 5] (fun q i wr => ∃ k : Nat, k ≤ n ∧ i = .int .i64 k ∧ q = .int .i64 (k0 + k) ∧ wr.ownsRow B 36 1 (.slice ao n cap) n (rowOf (fun j => if j < k then mk k0 j else X j) n) ∧ Below B w wr) (fun _ i _ => n - (intOf i).toNat)
  case atStart => exact ⟨0, Nat.zero_le _, rfl, by simp, by simpa using hown, Below.refl _ _⟩
  case round =>
    obtain ⟨k, hk, rfl, rfl, hownk, hBk⟩ := hrel
    by_cases hlt : k < n
    · have e := hao (by omega)
      subst e
      have hg := hBg (by omega)
      have hfz := hownk.frozenAt k
      have hcl : wr.cell? ⟨g, k, none⟩ = some (.float .f32 (X k)) := by
        rw [hownk.cellAt k (by omega), rowOf_get _ _ _ hlt, if_neg (by omega)]
      have hst := (hownk.stored k (.float .f32 (mk k0 k))).1
      rw [rowOf_set] at hst
      rw [rowOf_congr (Y := fun j => if j < k + 1 then mk k0 j else X j) (fun j _ => by
          by_cases hj : j = k
          · subst hj; simp
          · rw [if_neg hj]; by_cases hj2 : j < k
            · rw [if_pos hj2, if_pos (by omega)]
            · rw [if_neg hj2, if_neg (by omega)])] at hst
      have hB' : Below B w (wr.setCell ⟨g, k, none⟩ (.float .f32 (mk k0 k))) := hBk.setCell hg _
      have hsf := store_float wr ⟨g, k, none⟩ (mk k0 k) hcl hfz
      have hmk : floatOfInt .f32 (k0 + k) = mk k0 k := rfl
      clear hownk hBk hown hBg
      go_wp2
      go_roundw
      case rel => exact ⟨k + 1, by omega, by go_num, by go_num, hst, hB'⟩
      case measure => simp [intOf]; omega
    · have hkn : k = n := by omega
      subst hkn
      have hown' : wr.ownsRow B 36 1 (.slice ao k cap) k (rowOf (mk k0) k) := by
        rw [rowOf_congr (Y := mk k0) (fun j hj => by rw [if_pos hj])] at hownk
        exact hownk
      clear hownk
      go_wp2
      go_ret
      exact ⟨rfl, hown', hBk⟩
set_option maxHeartbeats 1600000 in
theorem heldF_any (B : Nat) (v : Value) (n : Nat) (k0 : Int) (w : World) (hown : w.ownsRow B 36 1 v n (rowOf (mk k0) n)) (hn : n ≤ 1048576) (hk0 : 0 ≤ k0) (hk1 : k0 ≤ 100000000) :
    Calls Try.prog 32 #[v, .int .i64 k0] w fun e w' => e = .returned (.int .i64 (k0 + n)) ∧ w = w' := by
  obtain ⟨g, ao, cap, rfl, hao⟩ : ∃ g ao cap, v = .slice ao n cap ∧ (0 < n → ao = some ⟨g, 0, none⟩) := by
    rcases hown.2 with ⟨rfl, rfl⟩ | ⟨g, cap, cur, rfl, hB, _⟩
    · exact ⟨0, none, 0, rfl, fun h => absurd h (Nat.lt_irrefl _)⟩
    · exact ⟨g, _, cap, rfl, fun _ => rfl⟩
  go_enter Try.func32, Try.ntmps32
  go_wp2
  go_loop [1, 5] (fun q i => ∃ k : Nat, k ≤ n ∧ i = .int .i64 k ∧ q = .int .i64 (k0 + k)) (fun _ i => n - (intOf i).toNat)
  case atStart => exact ⟨0, Nat.zero_le _, rfl, by simp⟩
  case round =>
    obtain ⟨k, hk, rfl, rfl⟩ := hrel
    by_cases hlt : k < n
    · have e := hao (by omega)
      subst e
      have hcl : w.cell? ⟨g, k, none⟩ = some (.float .f32 (mk k0 k)) := by
        rw [hown.cellAt k (by omega), rowOf_get _ _ _ hlt]
      have hmk : floatOfInt .f32 (k0 + k) = mk k0 k := rfl
      have hs := mk_self k0 k
      clear hown
      go_wp2
      go_round
      case rel => exact ⟨k + 1, by omega, by go_num, by go_num⟩
      case measure => simp [intOf]; omega
    · have hkn : k = n := by omega
      subst hkn
      go_wp2
      go_ret
      exact ⟨rfl, rfl⟩
end Go.Proofs.Ytogmcinaoemnpab
