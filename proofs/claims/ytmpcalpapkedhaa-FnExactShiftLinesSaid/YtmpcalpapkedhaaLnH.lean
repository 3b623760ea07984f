
/- The laws' own marks on a list of lines that is one's own, and whether they are still there; a list of lines behind an empty one. -/
import Derived.Test.YtmpcalpapkedhaaLnC
import Derived.Test.YtmpcalpapkedhaaOut
import Derived.Test.YtmpcalpapkedhaaLaw
import Derived.Lib.SliceRun
namespace Go.Proofs.Ytmpcalpapkedhaa
set_option linter.all false
open Go Go.ChangeShapes Go.WideShapes Go.ChangeAt Go.RowKit

theorem LikeN.trans_symm {X Y Z : Nat → Ln} {n : Nat} (h : LikeN X Z n) (g : LikeN Y Z n) : LikeN X Y n := fun i hi =>
  ⟨(h i hi).1.trans (g i hi).1.symm, (h i hi).2.1.trans (g i hi).2.1.symm, (h i hi).2.2.1.trans (g i hi).2.2.1.symm, (h i hi).2.2.2.trans (g i hi).2.2.2.symm⟩
theorem own_onlyS {w w' : World} {B e z n g : Nat} {v : Value} {xs : List Value} (h : w.ownsRow B e z v n xs) (hg : g < B) (o : Only g w w') : w'.ownsRow B e z v n xs := by
  obtain ⟨o1, o2, o3, o4, o5⟩ := o
  refine ⟨h.1, ?_⟩
  rcases h.2 with h2 | ⟨b, cap, cur, e1, e2, e3, e4⟩
  · exact .inl h2
  · have hb : b < w.heap.size := (Array.getElem?_eq_some_iff.1 e3).1
    exact .inr ⟨b, cap, cur, e1, e2, (o5 b hb (by omega)).trans e3, e4⟩
theorem rdN_own_' {w : World} {B e n cap : Nat} {xa : Option Addr} {X : Nat → Ln} (h : w.ownsRow B e 4 (.slice xa n cap) n (rowN X n)) : RdN w xa n X := rdN_own h
def mkN (k0 : Int) (j : Nat) : Ln := ⟨floatOfInt .f32 (k0 + 4 * j), floatOfInt .f32 (k0 + 4 * j + 1), floatOfInt .f32 (k0 + 4 * j + 1 + 1), k0 + 4 * j + 1 + 1 + 1⟩
theorem flt_self (z : Int) : (FloatKind.f32.format.order (floatOfInt .f32 z) (floatOfInt .f32 z) != some .eq) = false := by
  have := mk_self z 0
  simpa [mk] using this
/-- The marks, written. -/
def MarkedNB (B : Nat) (v : Value) (n : Nat) (k0 : Int) (w : World) (e : Ending) (w' : World) : Prop :=
  e = .returned (.int .i64 (k0 + 4 * n)) ∧ w'.ownsRow B 120 4 v n (rowN (mkN k0) n) ∧ Below B w w'
set_option maxRecDepth 100000 in
set_option maxHeartbeats 3200000 in
theorem markNB_any (B : Nat) (v : Value) (n : Nat) (X : Nat → Ln) (k0 : Int) (w : World) (hown : w.ownsRow B 120 4 v n (rowN X n)) (hn : n ≤ 1048576) (hk0 : 0 ≤ k0) (hk1 : k0 ≤ 100000000) :
    Calls Try.prog 38 #[v, .int .i64 k0] w (MarkedNB B v n k0 w) := by
  obtain ⟨g, ao, cap, rfl, hao, hBg⟩ : ∃ g ao cap, v = .slice ao n cap ∧ (0 < n → ao = some ⟨g, 0, none⟩) ∧ (0 < n → B ≤ g) := by
    rcases hown.2 with ⟨rfl, rfl⟩ | ⟨g, cap, cur, rfl, hB, _⟩
    · exact ⟨0, none, 0, rfl, fun h => absurd h (Nat.lt_irrefl _), fun h => absurd h (Nat.lt_irrefl _)⟩
    · exact ⟨g, _, cap, rfl, fun _ => rfl, fun _ => hB⟩
  go_enter Try.func38, Try.ntmps38
  go_wp2
  go_loopw [1, 5] (fun q i wr => ∃ k : Nat, k ≤ n ∧ i = .int .i64 k ∧ q = .int .i64 (k0 + 4 * k) ∧ wr.ownsRow B 120 4 (.slice ao n cap) n (rowN (fun j => if j < k then mkN k0 j else X j) n) ∧ Below B w wr) (fun _ i _ => n - (intOf i).toNat)
  case atStart => exact ⟨0, Nat.zero_le _, rfl, by simp, by simpa using hown, Below.refl _ _⟩
  case round =>
    obtain ⟨k, hk, rfl, rfl, hownk, hBk⟩ := hrel
    clear hown
    by_cases hlt : k < n
    · have e := hao (by omega)
      subst e
      have hg := hBg (by omega)
      obtain ⟨c0, c1, c2, c3⟩ := ownN_cells hownk hlt
      have f0 := hownk.frozenAt (k * 4)
      have f1 := hownk.frozenAt (k * 4 + 1)
      have f2 := hownk.frozenAt (k * 4 + 2)
      have f3 := hownk.frozenAt (k * 4 + 3)
      have hst := run_store_f32
      have hst2 := run_store_i64
      have HO := Lib.hid hownk
      have HBk := Lib.hid hBk
      clear hownk hBk
      go_wp2
      go_roundw
      case rel =>
        refine ⟨k + 1, by omega, by go_num, by go_num, ?_, ?_⟩
        · have h5 := ownN_stored HO.out k (mkN k0 k) hlt
          rw [rowN_congr (Y := fun j => if j < k + 1 then mkN k0 j else X j) (fun j _ => by
            by_cases hj : j = k
            · subst hj; simp
            · rw [if_neg hj]; by_cases hj2 : j < k
              · rw [if_pos hj2, if_pos (by omega)]
              · rw [if_neg hj2, if_neg (by omega)])] at h5
          exact h5
        · exact (((HBk.out.setCell hg _).setCell hg _).setCell hg _).setCell hg _
      case measure => simp [intOf]; omega
    · have hkn : k = n := by omega
      subst hkn
      have hown' : wr.ownsRow B 120 4 (.slice ao k cap) k (rowN (mkN k0) k) := by
        rw [rowN_congr (Y := mkN k0) (fun j hj => by rw [if_pos hj])] at hownk
        exact hownk
      clear hownk
      go_wp2
      go_ret
      exact ⟨ret_i64 (by go_num), hown', hBk⟩
set_option maxRecDepth 100000 in
set_option maxHeartbeats 3200000 in
theorem heldN_any (B : Nat) (v : Value) (n : Nat) (k0 : Int) (w : World) (hown : w.ownsRow B 120 4 v n (rowN (mkN k0) n)) (hn : n ≤ 1048576) (hk0 : 0 ≤ k0) (hk1 : k0 ≤ 100000000) :
    Calls Try.prog 39 #[v, .int .i64 k0] w fun e w' => e = .returned (.int .i64 (k0 + 4 * n)) ∧ w = w' := by
  obtain ⟨g, ao, cap, rfl, hao⟩ : ∃ g ao cap, v = .slice ao n cap ∧ (0 < n → ao = some ⟨g, 0, none⟩) := by
    rcases hown.2 with ⟨rfl, rfl⟩ | ⟨g, cap, cur, rfl, hB, _⟩
    · exact ⟨0, none, 0, rfl, fun h => absurd h (Nat.lt_irrefl _)⟩
    · exact ⟨g, _, cap, rfl, fun _ => rfl⟩
  have hs := flt_self
  go_enter Try.func39, Try.ntmps39
  go_wp2
  go_loop [1, 5] (fun q i => ∃ k : Nat, k ≤ n ∧ i = .int .i64 k ∧ q = .int .i64 (k0 + 4 * k)) (fun _ i => n - (intOf i).toNat)
  case atStart => exact ⟨0, Nat.zero_le _, rfl, by simp⟩
  case round =>
    obtain ⟨k, hk, rfl, rfl⟩ := hrel
    by_cases hlt : k < n
    · have e := hao (by omega)
      subst e
      obtain ⟨c0, c1, c2, c3⟩ := ownN_cells hown hlt
      simp only [mkN] at c0 c1 c2 c3
      clear hown
      go_wp2
      go_round
      case rel => exact ⟨k + 1, by omega, by go_num, by go_num⟩
      case measure => simp [intOf]; omega
    · have hkn : k = n := by omega
      subst hkn
      go_wp2
      go_ret
      exact ⟨ret_i64 (by go_num), rfl⟩
/-- Lines, put behind an empty list of the call's own. -/
theorem wpL_copyN {B : Nat} {w0 : World} {ops : Array Oper} {rest : List Oper} {o : Oper} {a : Act} {Q : Exit → Act → World → Prop} (hgd : o.guard = none) {s x : Operand}
    (ho : o.op = .call { callee := .builtin .append, args := #[s, x], argTypes := #[51, 51] }) {v : Value} {ad : Addr} {n cx : Nat} {X : Nat → Ln} (hs : a.eval s = v) (hx : a.eval x = .slice (some ad) n cx)
    (hown : w0.ownsRow B 120 4 v 0 []) (hX : RdN w0 (some ad) n X) (hn : n ≤ 1048576) (hB : B ≤ w0.heap.size)
    (h : ∀ v' w', w'.ownsRow B 120 4 v' n (rowN X n) → Below B w0 w' → wpList Try.prog ops Q rest (a.put o.dst v') w') :
    wpList Try.prog ops Q (o :: rest) a w0 := by
  obtain ⟨i0, hi, hz0, hz1, hz2⟩ := info_parts infoN
  obtain ⟨xb, xo, hxa, hcx⟩ := hX
  refine wpList_append_own _ hgd s x 51 ho B 120 i0 _ 4 24 Try.underlying51 hi hz0 hz1 hz2 rfl (by decide) v 0 [] hs hown ad n cx (rowN X n) hx (rowN_length X n) ?_ ?_ (by unfold maxLen; omega) (by omega) hB ?_
  · intro j c hj
    by_cases hjn : j < n * 4
    · obtain ⟨q, r, rfl, hr⟩ : ∃ q r, j = q * 4 + r ∧ r < 4 := ⟨j / 4, j % 4, by omega, by omega⟩
      have hq : q < n := by omega
      have e := hxa (by omega)
      cases e
      rw [rowN_get X n q r hq hr] at hj
      obtain ⟨c0, c1, c2, c3⟩ := hcx q hq
      have ha : (Addr.add ⟨xb, xo, none⟩ (q * 4 + r)) = ⟨xb, xo + q * 4 + r, none⟩ := by
        unfold Addr.add
        by_cases h0 : q * 4 + r = 0
        · have h1 : q = 0 := by omega
          have h2 : r = 0 := by omega
          subst h1 h2; rfl
        · rw [if_neg h0, Nat.add_assoc]
      rw [ha]
      rcases (by omega : r = 0 ∨ r = 1 ∨ r = 2 ∨ r = 3) with rfl | rfl | rfl | rfl <;> (simp only [lnCells] at hj; simp at hj; subst hj)
      · exact c0
      · exact c1
      · exact c2
      · exact c3
    · rw [List.getElem?_eq_none (by rw [rowN_length]; omega)] at hj; cases hj
  · intro u hu
    obtain ⟨j, hj, rfl⟩ := List.getElem_of_mem hu
    have hjn : j < n * 4 := by rw [rowN_length] at hj; exact hj
    obtain ⟨q, r, rfl, hr⟩ : ∃ q r, j = q * 4 + r ∧ r < 4 := ⟨j / 4, j % 4, by omega, by omega⟩
    have hq : q < n := by omega
    have hg := rowN_get X n q r hq hr
    rw [List.getElem?_eq_getElem hj] at hg
    generalize (rowN X n)[q * 4 + r] = z at hg ⊢
    rcases (by omega : r = 0 ∨ r = 1 ∨ r = 2 ∨ r = 3) with rfl | rfl | rfl | rfl <;> (simp only [lnCells] at hg; simp at hg; subst hg; rfl)
  · intro v' w' h1 h2 _
    rw [Nat.zero_add, List.nil_append] at h1
    exact h v' w' h1 ((Below.refl B w0).grown h2 hB (fun k hk => (hown.lt k hk).1))
end Go.Proofs.Ytmpcalpapkedhaa
