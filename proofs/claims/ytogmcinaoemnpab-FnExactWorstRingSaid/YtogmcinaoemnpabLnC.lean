
/- The laws' own copying and comparing of lists of lines. -/
import Derived.Test.YtogmcinaoemnpabLns
import Derived.Test.YtogmcinaoemnpabSame
import Derived.Test.YtogmcinaoemnpabLiC
import Derived.Deep.QuietTactic
import Derived.BigQuiet
import Derived.StillTailTactics
namespace Go.Proofs.Ytogmcinaoemnpab
open Go Go.ChangeShapes Go.WideShapes Go.ChangeAt Go.RowKit

theorem rowN_set (X : Nat → Ln) (n k : Nat) (l : Ln) (hk : k < n) :
    ((((rowN X n).set (k * 4) (.float .f32 l.p)).set (k * 4 + 1) (.float .f32 l.h)).set (k * 4 + 2) (.float .f32 l.d)).set (k * 4 + 3) (.int .i64 l.k) = rowN (fun j => if j = k then l else X j) n := by
  apply List.ext_getElem?
  intro i
  by_cases hi : i < n * 4
  · obtain ⟨q, r, rfl, hr⟩ : ∃ q r, i = q * 4 + r ∧ r < 4 := ⟨i / 4, i % 4, by omega, by omega⟩
    have hq : q < n := by omega
    rw [rowN_get _ _ _ _ hq hr]
    have hlen := rowN_length X n
    simp only [List.getElem?_set, List.length_set, hlen]
    by_cases hqk : q = k
    · subst hqk
      rw [if_pos rfl]
      rcases (by omega : r = 0 ∨ r = 1 ∨ r = 2 ∨ r = 3) with rfl | rfl | rfl | rfl
      · rw [if_neg (by omega), if_neg (by omega), if_neg (by omega), if_pos (by omega), if_pos (by omega)]; rfl
      · rw [if_neg (by omega), if_neg (by omega), if_pos (by omega), if_pos (by omega)]; rfl
      · rw [if_neg (by omega), if_pos (by omega), if_pos (by omega)]; rfl
      · rw [if_pos (by omega), if_pos (by omega)]; rfl
    · rw [if_neg (by omega), if_neg (by omega), if_neg (by omega), if_neg (by omega), rowN_get X n q r hq hr, if_neg hqk]
  · rw [List.getElem?_eq_none (by simp [rowN_length]; omega), List.getElem?_eq_none (by simp [rowN_length]; omega)]
/-- A line stored into a list of the call's own. -/
theorem ownN_stored {w : World} {B e g n cap : Nat} {X : Nat → Ln} (h : w.ownsRow B e 4 (.slice (some ⟨g, 0, none⟩) n cap) n (rowN X n)) (k : Nat) (l : Ln) (hk : k < n) :
    ((((w.setCell ⟨g, k * 4, none⟩ (.float .f32 l.p)).setCell ⟨g, k * 4 + 1, none⟩ (.float .f32 l.h)).setCell ⟨g, k * 4 + 2, none⟩ (.float .f32 l.d)).setCell ⟨g, k * 4 + 3, none⟩ (.int .i64 l.k)).ownsRow B e 4 (.slice (some ⟨g, 0, none⟩) n cap) n (rowN (fun j => if j = k then l else X j) n) := by
  have h1 := (h.stored (k * 4) (.float .f32 l.p)).1
  have h2 := (h1.stored (k * 4 + 1) (.float .f32 l.h)).1
  have h3 := (h2.stored (k * 4 + 2) (.float .f32 l.d)).1
  have h4 := (h3.stored (k * 4 + 3) (.int .i64 l.k)).1
  rw [rowN_set X n k l hk] at h4
  exact h4
theorem ownN_cells {w : World} {B e g n cap k : Nat} {X : Nat → Ln} (h : w.ownsRow B e 4 (.slice (some ⟨g, 0, none⟩) n cap) n (rowN X n)) (hk : k < n) : LnIn w g (k * 4) (X k) := by
  obtain ⟨xa, cap', hv, _, _, b, o, h1, h2⟩ := rdN_of_own h
  cases hv
  have e := h1 (by omega)
  cases e
  have := h2 k hk
  rw [Nat.zero_add] at this
  exact this
theorem rdN_own {w : World} {B e n cap : Nat} {xa : Option Addr} {X : Nat → Ln} (h : w.ownsRow B e 4 (.slice xa n cap) n (rowN X n)) : RdN w xa n X := by
  obtain ⟨xa', cap', hv, _, _, hr⟩ := rdN_of_own h
  cases hv
  exact hr
/-- What is owned stays so where all that was there is as it was. -/
theorem ownS_below {w w' : World} {B e z : Nat} {v : Value} {n : Nat} {xs : List Value} (h : w.ownsRow B e z v n xs) (hb : Below w.heap.size w w') : w'.ownsRow B e z v n xs := by
  refine ⟨h.1, ?_⟩
  rcases h.2 with h2 | ⟨g, cap, cur, h1, h2, h3, h4⟩
  · exact .inl h2
  · refine .inr ⟨g, cap, cur, h1, h2, ?_, h4⟩
    have hg : g < w.heap.size := (Array.getElem?_eq_some_iff.1 h3).1
    rw [hb.block g hg]
    exact h3
def zln : Ln := ⟨0, 0, 0, 0⟩
theorem madeN (n : Nat) : (madeCells #[Value.float .f32 0, Value.float .f32 0, Value.float .f32 0, Value.int .i64 0] (n * 4)).toList = rowN (fun _ => zln) n := by
  apply List.ext_getElem?
  intro i
  have hL : ∀ (f : Nat → Value) (m : Nat), ((Array.range m).map f).toList = (List.range m).map f := fun f m => by simp
  unfold madeCells
  rw [hL, List.getElem?_map]
  by_cases hi : i < n * 4
  · rw [List.getElem?_range hi]
    obtain ⟨q, r, rfl, hr⟩ : ∃ q r, i = q * 4 + r ∧ r < 4 := ⟨i / 4, i % 4, by omega, by omega⟩
    rw [rowN_get _ _ _ _ (by omega) hr]
    have hm : (q * 4 + r) % 4 = r := by omega
    show some (#[Value.float .f32 0, Value.float .f32 0, Value.float .f32 0, Value.int .i64 0][(q * 4 + r) % 4]!) = _
    rw [hm]
    rcases (by omega : r = 0 ∨ r = 1 ∨ r = 2 ∨ r = 3) with rfl | rfl | rfl | rfl <;> rfl
  · rw [List.getElem?_eq_none (by simp; omega), List.getElem?_eq_none (by rw [rowN_length]; omega)]
    rfl
/-- Lines that are the same but for the bits of not-a-numbers. -/
def LikeN (X Y : Nat → Ln) (n : Nat) : Prop := ∀ i, i < n → canon .f32 (X i).p = canon .f32 (Y i).p ∧ canon .f32 (X i).h = canon .f32 (Y i).h ∧ canon .f32 (X i).d = canon .f32 (Y i).d ∧ (X i).k = (Y i).k
theorem LikeN.refl (X : Nat → Ln) (n : Nat) : LikeN X X n := fun _ _ => ⟨rfl, rfl, rfl, rfl⟩
end Go.Proofs.Ytogmcinaoemnpab
