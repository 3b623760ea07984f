
/- Lines that are moved and scaled: as the model and as the program make them. -/
import Derived.Test.YtmpcalpapkedhaaLnH
import Derived.Test.YtmpcalpapkedhaaLsk
import Derived.Test.YtmpcalpapkedhaaRo
import Derived.Test.YtmpcalpapkedhaaGeA
namespace Go.Proofs.Ytmpcalpapkedhaa
set_option linter.all false
open Go Go.ChangeShapes Go.WideShapes Go.ChangeAt Go.RowKit

def shLn (b t : Nat) (l : Ln) : Ln := ⟨fbin .add .f32 l.p b, fbin .mul .f32 l.h t, l.d, l.k⟩
def shOk (b t : Nat) (X : Nat → Ln) (n : Nat) : Bool := (allLn X n && decide (n ≤ 12)) && (isFin .f32 b && (isFin .f32 t && allLn (fun i => shLn b t (X i)) n))
/-- What is told of a list of lines. -/
def RetNL (p : Nat) (R : Nat → Ln) (ok : Bool) (w : World) (e : Ending) (w' : World) : Prop := ∃ v A, e = .returned (.tuple #[v, .bool ok]) ∧ w'.ownsRow w.heap.size 120 4 v p (rowN A p) ∧ LikeN A R p ∧ Below w.heap.size w w'
theorem RetNL.no {R : Nat → Ln} {w w' : World} (hb : Below w.heap.size w w') : RetNL 0 R false w (.returned (.tuple #[.slice none 0 0, .bool false])) w' :=
  ⟨_, R, rfl, World.ownsRow_nil _ _ _ _, LikeN.refl _ _, hb⟩
theorem okLn_num {l : Ln} (h : okLn l = true) : isFin .f32 l.p = true ∧ isFin .f32 l.h = true := by
  obtain ⟨h1, h2, _⟩ := okLin_at (a := l.p) (b := l.h) (c := l.d) (k := l.k) h
  exact ⟨h1, h2⟩
/-- Of a list of the call's own the places and heights become others. -/
def shTo (b t k : Nat) (X : Nat → Ln) (j : Nat) : Ln := if j < k then shLn b t (X j) else X j
theorem ownN_two {w : World} {B e g n cap k : Nat} {X : Nat → Ln} (b t : Nat) (h : w.ownsRow B e 4 (.slice (some ⟨g, 0, none⟩) n cap) n (rowN (shTo b t k X) n)) (hk : k < n) :
    ((w.setCell ⟨g, k * 4, none⟩ (.float .f32 (fbin .add .f32 (X k).p b))).setCell ⟨g, k * 4 + 1, none⟩ (.float .f32 (fbin .mul .f32 (X k).h t))).ownsRow B e 4 (.slice (some ⟨g, 0, none⟩) n cap) n (rowN (shTo b t (k + 1) X) n) := by
  obtain ⟨c0, c1, c2, c3⟩ := ownN_cells h hk
  have e0 : shTo b t k X k = X k := by unfold shTo; rw [if_neg (Nat.lt_irrefl _)]
  rw [e0] at c0 c1 c2 c3
  have h1 := (h.stored (k * 4) (.float .f32 (fbin .add .f32 (X k).p b))).1
  have h2 := (h1.stored (k * 4 + 1) (.float .f32 (fbin .mul .f32 (X k).h t))).1
  have e2 : (((rowN (shTo b t k X) n).set (k * 4) (.float .f32 (fbin .add .f32 (X k).p b))).set (k * 4 + 1) (.float .f32 (fbin .mul .f32 (X k).h t))) = rowN (shTo b t (k + 1) X) n := by
    apply List.ext_getElem?
    intro i
    have hlen := rowN_length (shTo b t k X) n
    by_cases hi : i < n * 4
    · obtain ⟨q, r, rfl, hr⟩ : ∃ q r, i = q * 4 + r ∧ r < 4 := ⟨i / 4, i % 4, by omega, by omega⟩
      have hq : q < n := by omega
      rw [rowN_get (shTo b t (k + 1) X) n q r hq hr]
      simp only [List.getElem?_set, List.length_set, hlen]
      by_cases hqk : q = k
      · subst hqk
        have e9 : shTo b t (q + 1) X q = shLn b t (X q) := by unfold shTo; rw [if_pos (by omega)]
        rw [e9]
        rcases (by omega : r = 0 ∨ r = 1 ∨ r = 2 ∨ r = 3) with rfl | rfl | rfl | rfl
        · rw [if_neg (by omega), if_pos (by omega), if_pos (by omega)]; rfl
        · rw [if_pos (by omega), if_pos (by omega)]; rfl
        · rw [if_neg (by omega), if_neg (by omega), rowN_get _ n q 2 hq (by omega), e0]; rfl
        · rw [if_neg (by omega), if_neg (by omega), rowN_get _ n q 3 hq (by omega), e0]; rfl
      · have e9 : shTo b t (k + 1) X q = shTo b t k X q := by
          unfold shTo
          by_cases e2 : q < k
          · rw [if_pos e2, if_pos (by omega)]
          · rw [if_neg e2, if_neg (by omega)]
        rw [if_neg (by omega), if_neg (by omega), rowN_get _ n q r hq hr, e9]
    · rw [List.getElem?_eq_none (by simp [rowN_length]; omega), List.getElem?_eq_none (by rw [rowN_length]; omega)]
  rw [e2] at h2
  exact h2
set_option maxRecDepth 100000 in
set_option maxHeartbeats 1600000 in
theorem cloneN_any (ad : Addr) (n cap : Nat) (X : Nat → Ln) (w : World) (hX : RdN w (some ad) n X) (hn : n ≤ 1048576) :
    Calls Try.prog 98 #[.slice (some ad) n cap] w fun e w' => ∃ v, e = .returned v ∧ w'.ownsRow w.heap.size 120 4 v n (rowN X n) ∧ Below w.heap.size w w' := by
  have hnil : ∀ W, (binOp .eql 51 (.slice (some ad) n cap) (.slice none 0 0)).run Try.prog W = .ok (.bool false) W := fun W => Lib.run_eql_slice_nil W _ _ _ _ _ _ _ Try.underlying51
  go_enter Try.func98, Try.ntmps98
  go_wp2_with (at_builtin; refine wpL_copyN rfl rfl rfl rfl (World.ownsRow_made w #[] 0 (Nat.le_refl _) (Nat.zero_le _) rfl) (by exact hX.below ((Below.refl _ _).alloc (Nat.le_refl _) _)) hn (by simp) ?_; intro v' w1 hown hb)
  go_ret
  exact ⟨v', rfl, hown, ((Below.refl _ w).alloc (Nat.le_refl _) _).trans hb⟩
end Go.Proofs.Ytmpcalpapkedhaa
