
/- Who holds which one of a catalog: place by place, as the program tells it; by all places at once, as the model tells it. -/
import Derived.Test.YtogmcinaoemnpabSameA
namespace Go.Proofs.Ytogmcinaoemnpab
set_option linter.all false
open Go

/-- The place that holds m after the first i places. -/
def hold (ne : Nat → Int) (dl : Nat → Nat) (m : Int) : Nat → Option Nat
  | 0 => none
  | i + 1 => if ne i = m then (match hold ne dl m i with | none => some i | some h => if dl h ≤ dl i then some h else some i) else hold ne dl m i
theorem hold_some {ne : Nat → Int} {dl : Nat → Nat} {m : Int} : ∀ {i h : Nat}, hold ne dl m i = some h → h < i ∧ ne h = m ∧ ∀ j, j < i → ne j = m → j = h ∨ dl h < dl j ∨ (dl h = dl j ∧ h < j)
  | 0, h, e => by cases e
  | i + 1, h, e => by
    unfold hold at e
    by_cases hm : ne i = m
    · rw [if_pos hm] at e
      cases hh : hold ne dl m i with
      | none =>
        rw [hh] at e
        simp only [Option.some.injEq] at e
        subst e
        refine ⟨by omega, hm, fun j hj hjm => ?_⟩
        by_cases hji : j = i
        · exact .inl hji
        · exfalso
          exact hold_none hh j (by omega) hjm
      | some g =>
        rw [hh] at e
        obtain ⟨g1, g2, g3⟩ := hold_some hh
        by_cases hd : dl g ≤ dl i
        · simp only [hd, if_true, Option.some.injEq] at e
          subst e
          refine ⟨by omega, g2, fun j hj hjm => ?_⟩
          by_cases hji : j = i
          · subst hji
            by_cases hde : dl g = dl j
            · exact .inr (.inr ⟨hde, g1⟩)
            · exact .inr (.inl (by omega))
          · exact g3 j (by omega) hjm
        · simp only [hd, if_false, Option.some.injEq] at e
          subst e
          refine ⟨by omega, hm, fun j hj hjm => ?_⟩
          by_cases hji : j = i
          · exact .inl hji
          · right; left
            rcases g3 j (by omega) hjm with rfl | h1 | ⟨h1, _⟩
            · omega
            · omega
            · omega
    · rw [if_neg hm] at e
      obtain ⟨g1, g2, g3⟩ := hold_some e
      refine ⟨by omega, g2, fun j hj hjm => ?_⟩
      by_cases hji : j = i
      · subst hji; exact absurd hjm hm
      · exact g3 j (by omega) hjm
where
  hold_none {ne : Nat → Int} {dl : Nat → Nat} {m : Int} : ∀ {i : Nat}, hold ne dl m i = none → ∀ j, j < i → ne j ≠ m
  | 0, _, j, hj => absurd hj (Nat.not_lt_zero _)
  | i + 1, e, j, hj => by
    unfold hold at e
    by_cases hm : ne i = m
    · rw [if_pos hm] at e
      cases hh : hold ne dl m i with
      | none => rw [hh] at e; cases e
      | some g =>
        rw [hh] at e
        by_cases hd : dl g ≤ dl i
        · simp [hd] at e
        · simp [hd] at e
    · rw [if_neg hm] at e
      by_cases hji : j = i
      · subst hji; exact hm
      · exact hold_none e j (by omega)
theorem hold_none {ne : Nat → Int} {dl : Nat → Nat} {m : Int} {i : Nat} (h : hold ne dl m i = none) : ∀ j, j < i → ne j ≠ m := hold_some.hold_none h
/-- The matches after the first i places. -/
def mtI (ne : Nat → Int) (dl : Nat → Nat) (i j : Nat) : Int := if j < i then (if hold ne dl (ne j) i = some j then ne j else -1) else 0
theorem hold_ne {ne : Nat → Int} {dl : Nat → Nat} {m : Int} {i : Nat} (h : ne i ≠ m) : hold ne dl m (i + 1) = hold ne dl m i := by
  show (if ne i = m then _ else hold ne dl m i) = _
  rw [if_neg h]
theorem hold_new {ne : Nat → Int} {dl : Nat → Nat} {i : Nat} (h : hold ne dl (ne i) i = none) : hold ne dl (ne i) (i + 1) = some i := by
  show (if ne i = ne i then (match hold ne dl (ne i) i with | none => some i | some h => if dl h ≤ dl i then some h else some i) else hold ne dl (ne i) i) = _
  rw [if_pos rfl, h]
theorem hold_stay {ne : Nat → Int} {dl : Nat → Nat} {i g : Nat} (h : hold ne dl (ne i) i = some g) (hd : dl g ≤ dl i) : hold ne dl (ne i) (i + 1) = some g := by
  show (if ne i = ne i then (match hold ne dl (ne i) i with | none => some i | some h => if dl h ≤ dl i then some h else some i) else hold ne dl (ne i) i) = _
  rw [if_pos rfl, h]
  simp [hd]
theorem hold_take {ne : Nat → Int} {dl : Nat → Nat} {i g : Nat} (h : hold ne dl (ne i) i = some g) (hd : ¬ dl g ≤ dl i) : hold ne dl (ne i) (i + 1) = some i := by
  show (if ne i = ne i then (match hold ne dl (ne i) i with | none => some i | some h => if dl h ≤ dl i then some h else some i) else hold ne dl (ne i) i) = _
  rw [if_pos rfl, h]
  simp [hd]
theorem hold_lt {ne : Nat → Int} {dl : Nat → Nat} {m : Int} {i g : Nat} (h : hold ne dl m i = some g) : g < i := (hold_some h).1
/-- No match: nothing else is done. -/
theorem mtI_low {ne : Nat → Int} {dl : Nat → Nat} {i : Nat} (h : ne i = -1) (j : Nat) : (if j = i then ne i else mtI ne dl i j) = mtI ne dl (i + 1) j := by
  unfold mtI
  by_cases hj : j = i
  · subst hj
    rw [if_pos rfl, if_pos (by omega), h]
    split <;> rfl
  · rw [if_neg hj]
    by_cases hji : j < i
    · rw [if_pos hji, if_pos (show j < i + 1 by omega)]
      by_cases he : ne j = -1
      · rw [he]; split <;> split <;> rfl
      · rw [hold_ne (by rw [h]; exact fun e => he e.symm)]
    · rw [if_neg hji, if_neg (by omega)]
/-- The holder stays. -/
theorem mtI_stay {ne : Nat → Int} {dl : Nat → Nat} {i g : Nat} (h : hold ne dl (ne i) i = some g) (hd : dl g ≤ dl i) (j : Nat) : (if j = i then -1 else if j = i then ne i else mtI ne dl i j) = mtI ne dl (i + 1) j := by
  unfold mtI
  by_cases hj : j = i
  · subst hj
    rw [if_pos rfl, if_pos (by omega), hold_stay h hd, if_neg]
    intro e
    have := hold_lt h
    simp only [Option.some.injEq] at e
    omega
  · rw [if_neg hj, if_neg hj]
    by_cases hji : j < i
    · rw [if_pos hji, if_pos (show j < i + 1 by omega)]
      by_cases he : ne i = ne j
      · rw [← he, hold_stay h hd, h]
      · rw [hold_ne he]
    · rw [if_neg hji, if_neg (by omega)]
/-- A new holder takes it from another. -/
theorem mtI_take {ne : Nat → Int} {dl : Nat → Nat} {i g : Nat} (h : hold ne dl (ne i) i = some g) (hd : ¬ dl g ≤ dl i) (j : Nat) : (if j = g then -1 else if j = i then ne i else mtI ne dl i j) = mtI ne dl (i + 1) j := by
  have hg := hold_some h
  unfold mtI
  by_cases hj : j = i
  · subst hj
    rw [if_neg (by omega), if_pos rfl, if_pos (by omega), hold_take h hd, if_pos rfl]
  · by_cases hjg : j = g
    · subst hjg
      rw [if_pos rfl, if_pos (by omega), hg.2.1, hold_take h hd, if_neg]
      intro e
      simp only [Option.some.injEq] at e
      omega
    · rw [if_neg hjg, if_neg hj]
      by_cases hji : j < i
      · rw [if_pos hji, if_pos (show j < i + 1 by omega)]
        by_cases he : ne i = ne j
        · rw [← he, hold_take h hd, h, if_neg (by simp; omega), if_neg (by simp; omega)]
        · rw [hold_ne he]
      · rw [if_neg hji, if_neg (by omega)]
/-- .. takes what no one had. -/
theorem mtI_new {ne : Nat → Int} {dl : Nat → Nat} {i : Nat} (h : hold ne dl (ne i) i = none) (j : Nat) : (if j = i then ne i else mtI ne dl i j) = mtI ne dl (i + 1) j := by
  have hg := hold_none h
  unfold mtI
  by_cases hj : j = i
  · subst hj
    rw [if_pos rfl, if_pos (by omega), hold_new h, if_pos rfl]
  · rw [if_neg hj]
    by_cases hji : j < i
    · rw [if_pos hji, if_pos (show j < i + 1 by omega), hold_ne (fun e => hg j hji e.symm)]
    · rw [if_neg hji, if_neg (by omega)]
/-- The model's match of place j after it has looked at the first k places. -/
def beats (ne : Nat → Int) (dl : Nat → Nat) (j k : Nat) : Prop := k ≠ j ∧ 0 ≤ ne k ∧ ne k = ne j ∧ (dl k < dl j ∨ (dl k = dl j ∧ k < j))
noncomputable def atM (ne : Nat → Int) (dl : Nat → Nat) (j k : Nat) : Int := open Classical in if ∃ i, i < k ∧ beats ne dl j i then -1 else ne j
theorem atM_zero (ne : Nat → Int) (dl : Nat → Nat) (j : Nat) : atM ne dl j 0 = ne j := by
  unfold atM
  rw [if_neg]
  rintro ⟨i, hi, _⟩
  omega
theorem atM_hit {ne : Nat → Int} {dl : Nat → Nat} {j k : Nat} (h1 : k ≠ j) (h2 : 0 ≤ ne k) (h3 : ne k = atM ne dl j k) (h4 : dl k < dl j ∨ (dl k = dl j ∧ k < j)) : atM ne dl j (k + 1) = -1 := by
  have h3' : ne k = ne j := by
    unfold atM at h3
    split at h3
    · omega
    · exact h3
  unfold atM
  rw [if_pos ⟨k, by omega, h1, h2, h3', h4⟩]
theorem atM_miss {ne : Nat → Int} {dl : Nat → Nat} {j k : Nat} (h : k ≠ j → 0 ≤ ne k → ne k = atM ne dl j k → ¬ (dl k < dl j ∨ (dl k = dl j ∧ k < j))) : atM ne dl j (k + 1) = atM ne dl j k := by
  by_cases he : ∃ i, i < k ∧ beats ne dl j i
  · obtain ⟨i, hi, hb⟩ := he
    unfold atM
    rw [if_pos ⟨i, by omega, hb⟩, if_pos ⟨i, hi, hb⟩]
  · have e0 : atM ne dl j k = ne j := by unfold atM; rw [if_neg he]
    rw [e0] at h ⊢
    unfold atM
    rw [if_neg]
    rintro ⟨i, hi, hb⟩
    by_cases hik : i = k
    · subst hik
      exact h hb.1 hb.2.1 hb.2.2.1 hb.2.2.2
    · exact he ⟨i, by omega, hb⟩
theorem atM_val {ne : Nat → Int} {dl : Nat → Nat} {j k : Nat} (h : 0 ≤ atM ne dl j k) : atM ne dl j k = ne j := by
  unfold atM at h ⊢
  split
  · rename_i h'
    rw [if_pos h'] at h
    omega
  · rfl
/-- What the model matches is what the program matches. -/
theorem atM_end {ne : Nat → Int} {dl : Nat → Nat} {n j : Nat} (hj : j < n) (hge : ∀ k, k < n → -1 ≤ ne k) : atM ne dl j n = mtI ne dl n j := by
  unfold mtI
  rw [if_pos hj]
  have h1 := hge j hj
  by_cases h0 : ne j = -1
  · rw [h0]
    unfold atM
    rw [h0]
    split <;> split <;> rfl
  · cases hh : hold ne dl (ne j) n with
    | none => exact absurd rfl (hold_none hh j hj)
    | some g =>
      obtain ⟨g1, g2, g3⟩ := hold_some hh
      by_cases hg : g = j
      · subst hg
        rw [if_pos rfl]
        unfold atM
        rw [if_neg]
        rintro ⟨i, hi, hb1, hb2, hb3, hb4⟩
        rcases g3 i hi hb3 with h | h | h
        · exact hb1 h
        · omega
        · omega
      · rw [if_neg (by simp; exact hg)]
        unfold atM
        rw [if_pos]
        rcases g3 j hj rfl with h | h | h
        · exact absurd h.symm hg
        · exact ⟨g, g1, hg, by omega, g2, .inl h⟩
        · exact ⟨g, g1, hg, by omega, g2, .inr h⟩
end Go.Proofs.Ytogmcinaoemnpab
