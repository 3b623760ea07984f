
/- Lists of numbers that a call writes in place: what they are like, up to the bits of not-a-numbers. -/
import Derived.Test.YtogmcinaoemnpabLaw
namespace Go.Proofs.Ytogmcinaoemnpab
open Go Go.ChangeShapes Go.WideShapes Go.ChangeAt Go.RowKit

/-- Each number of X is R's, or, where that is a not-a-number, any one that a draw gives. -/
def LikeP (X R : Nat → Nat) (n : Nat) : Prop := ∀ j, j < n → ∃ s, X j = pick .f32 (R j) s
theorem LikeP.like {X R : Nat → Nat} {n : Nat} (h : LikeP X R n) : Like X R n := fun j hj => by
  obtain ⟨s, hs⟩ := h j hj
  rw [hs, canon_pick]
theorem LikeP.set {X R : Nat → Nat} {n k r s u : Nat} (h : LikeP X R n) (hu : u = pick .f32 r s) : LikeP (fun j => if j = k then u else X j) (fun j => if j = k then r else R j) n := by
  intro j hj
  by_cases hk : j = k
  · exact ⟨s, by simp only [hk, if_true]; exact hu⟩
  · obtain ⟨t, ht⟩ := h j hj
    exact ⟨t, by simp only [if_neg hk]; exact ht⟩
theorem LikeP.push {X R : Nat → Nat} {k s u : Nat} (h : LikeP X R k) (hu : u = pick .f32 (R k) s) : LikeP (fun j => if j = k then u else X j) R (k + 1) := by
  intro j hj
  by_cases hk : j = k
  · exact ⟨s, by simp only [hk, if_true]; exact hu⟩
  · obtain ⟨t, ht⟩ := h j (by omega)
    exact ⟨t, by simp only [if_neg hk]; exact ht⟩
theorem LikeP.congr {X R R' : Nat → Nat} {n : Nat} (h : LikeP X R n) (he : ∀ j, j < n → R j = R' j) : LikeP X R' n := fun j hj => by
  obtain ⟨s, hs⟩ := h j hj
  exact ⟨s, by rw [← he j hj]; exact hs⟩
theorem LikeP.mono {X R : Nat → Nat} {n k : Nat} (h : LikeP X R n) (hk : k ≤ n) : LikeP X R k := fun j hj => h j (by omega)
theorem own_cell {w : World} {B e g n cap k : Nat} {X : Nat → Nat} (h : w.ownsRow B e 1 (.slice (some ⟨g, 0, none⟩) n cap) n (rowOf X n)) (hk : k < n) : w.cell? ⟨g, k, none⟩ = some (.float .f32 (X k)) := by
  rw [h.cellAt k (by omega), rowOf_get _ _ _ hk]
/-- A number stored into a row of the call's own, whatever has been drawn before. -/
theorem own_store {w : World} {B e g n cap k : Nat} {X : Nat → Nat} (h : w.ownsRow B e 1 (.slice (some ⟨g, 0, none⟩) n cap) n (rowOf X n)) (hk : k < n) (q u : Nat) :
    (store ⟨g, k, none⟩ (.float .f32 u)).run Try.prog (w.drewN q) = .ok () ((w.drewN q).setCell ⟨g, k, none⟩ (.float .f32 u)) :=
  store_float (w.drewN q) ⟨g, k, none⟩ u (own_cell h hk) (h.frozenAt k)
theorem own_store0 {w : World} {B e g n cap k : Nat} {X : Nat → Nat} (h : w.ownsRow B e 1 (.slice (some ⟨g, 0, none⟩) n cap) n (rowOf X n)) (hk : k < n) (u : Nat) :
    (store ⟨g, k, none⟩ (.float .f32 u)).run Try.prog w = .ok () (w.setCell ⟨g, k, none⟩ (.float .f32 u)) :=
  store_float w ⟨g, k, none⟩ u (own_cell h hk) (h.frozenAt k)
theorem own_stored {w : World} {B e g n cap : Nat} {X : Nat → Nat} (h : w.ownsRow B e 1 (.slice (some ⟨g, 0, none⟩) n cap) n (rowOf X n)) (k u : Nat) :
    (w.setCell ⟨g, k, none⟩ (.float .f32 u)).ownsRow B e 1 (.slice (some ⟨g, 0, none⟩) n cap) n (rowOf (fun j => if j = k then u else X j) n) := by
  have := (h.stored k (.float .f32 u)).1
  rw [rowOf_set] at this
  exact this
theorem Rd.cell {w : World} {xa : Option Addr} {n : Nat} {X : Nat → Nat} (h : Rd w xa n X) {k : Nat} (hk : k < n) : ∃ xb xo, xa = some ⟨xb, xo, none⟩ ∧ w.cell? ⟨xb, xo + k, none⟩ = some (.float .f32 (X k)) := by
  obtain ⟨xb, xo, h1, h2⟩ := h
  exact ⟨xb, xo, h1 (by omega), h2 k hk⟩
/-- A row that the call made, told if all of it is finite. -/
theorem outRet_fin {R X : Nat → Nat} {c : Nat} {v : Value} {w w' : World} (hL : LikeP X R c) (hown : w'.ownsRow w.heap.size 36 1 v c (rowOf X c)) (hc : c ≤ 1048576) (_hb : Below w.heap.size w w') :
    ∃ (v0 : Value) (Y0 : Nat → Nat), (if finL X c = true then v else .slice none 0 0) = v0 ∧ finL X c = finL R c ∧ w'.ownsRow w.heap.size 36 1 v0 (if finL R c = true then c else 0) (rowOf Y0 (if finL R c = true then c else 0)) ∧ Like Y0 R (if finL R c = true then c else 0) ∧ (if finL R c = true then c else 0) ≤ 1048576 := by
  have e := finL_like hL.like
  cases hf : finL R c
  · rw [hf] at e
    exact ⟨.slice none 0 0, X, by rw [e]; rfl, e, World.ownsRow_nil _ _ _ _, fun _ h => absurd h (Nat.not_lt_zero _), Nat.zero_le _⟩
  · rw [hf] at e
    exact ⟨v, X, by rw [e]; rfl, e, hown, hL.like, hc⟩
end Go.Proofs.Ytogmcinaoemnpab
