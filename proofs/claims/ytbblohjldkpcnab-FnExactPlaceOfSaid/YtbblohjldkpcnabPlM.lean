
/- The place of a wave: as the program tells it. -/
import Derived.Test.YtbblohjldkpcnabPlH
import Derived.Deep.Cut
import Derived.Deep.DeepCutAuto
namespace Go.Proofs.Ytbblohjldkpcnab
set_option linter.all false
open Go Go.ChangeShapes Go.WideShapes Go.ChangeAt Go.RowKit

theorem frozen_same {w w' : World} {b : Nat} (h : w'.heap[b]? = w.heap[b]?) (o : Nat) : w'.frozen? ⟨b, o, none⟩ = w.frozen? ⟨b, o, none⟩ := by
  simp only [World.frozen?, h]
theorem cell_only {w w' : World} {g b : Nat} {v : Value} (o : Only g w w') (h : w.cell? ⟨b, 0, none⟩ = some v) (hne : b ≠ g) : w'.cell? ⟨b, 0, none⟩ = some v :=
  (cell_same (o.2.2.2.2 b (World.block_lt_of_cell? w _ h) hne) 0).trans h
theorem frozen_only {w w' : World} {g b : Nat} {v : Value} (o : Only g w w') (h : w.cell? ⟨b, 0, none⟩ = some v) (hne : b ≠ g) (hf : w.frozen? ⟨b, 0, none⟩ = false) : w'.frozen? ⟨b, 0, none⟩ = false :=
  (frozen_same (o.2.2.2.2 b (World.block_lt_of_cell? w _ h) hne) 0).trans hf
theorem PlV.alloc {W0 w : World} {xa : Option Addr} {n cx : Nat} {X : Nat → Nat} {wave bc bf bw : Nat} {f : Bool} (h : PlV W0 w xa n cx X wave bc bf bw f) (o : Obj) : PlV W0 (w.alloc o) xa n cx X wave bc bf bw f := by
  have hb := (Below.refl w.heap.size w).alloc (Nat.le_refl _) o
  exact ⟨(hb.cell (p := ⟨bc, 0, none⟩) (World.block_lt_of_cell? w _ h.c0)).trans h.c0, (hb.cell (p := ⟨bf, 0, none⟩) (World.block_lt_of_cell? w _ h.c1)).trans h.c1, (hb.cell (p := ⟨bw, 0, none⟩) (World.block_lt_of_cell? w _ h.c2)).trans h.c2,
    (hb.frozen (p := ⟨bf, 0, none⟩) (World.block_lt_of_cell? w _ h.c1)).trans h.fz, h.lo, h.n1, h.n2, h.bl.alloc h.bl.size o⟩
theorem PlV.set {W0 w : World} {xa : Option Addr} {n cx : Nat} {X : Nat → Nat} {wave bc bf bw : Nat} {f : Bool} (h : PlV W0 w xa n cx X wave bc bf bw f) {b : Nat} (hW : W0.heap.size ≤ b) (h0 : b ≠ bc) (h1 : b ≠ bf) (h2 : b ≠ bw) (v : Value) : PlV W0 (w.setCell ⟨b, 0, none⟩ v) xa n cx X wave bc bf bw f := by
  have o : Only b w (w.setCell ⟨b, 0, none⟩ v) := (Only.refl b w).setCell 0 v
  exact ⟨cell_only o h.c0 (Ne.symm h0), cell_only o h.c1 (Ne.symm h1), cell_only o h.c2 (Ne.symm h2), frozen_only o h.c1 (Ne.symm h1) h.fz, h.lo, h.n1, h.n2, h.bl.trans (only_below hW h.bl.size o)⟩
theorem pl_pre {X : Nat → Nat} {n wave lo hi : Nat} {N : Int} (h : (plQ X n wave lo hi N && plB X n wave lo hi) = true) :
    wvK X n lo = true ∧ wvK X n hi = true ∧ wvA X n lo = atW X n lo n ∧ wvA X n hi = atW X n hi n ∧ (lsF (wvA X n lo) wave == lsF (wvA X n hi) wave) = false := by
  unfold plQ plB at h
  simp only [Bool.and_eq_true] at h
  obtain ⟨⟨⟨⟨⟨⟨k1, k2⟩, k3⟩, k4⟩, k5⟩, k6⟩, ⟨b1, b2⟩, b3⟩ := h
  have o1 : okWav X n lo = true := by unfold okWav; rw [k1, k3]; rfl
  have o2 : okWav X n hi = true := by unfold okWav; rw [k1, k4]; rfl
  have a1 : wvA X n lo = atW X n lo n := by unfold wvA numQ; rw [o1, b1]; rfl
  have a2 : wvA X n hi = atW X n hi n := by unfold wvA numQ; rw [o2, b2]; rfl
  refine ⟨by unfold wvK; rw [o1, b1]; rfl, by unfold wvK; rw [o2, b2]; rfl, a1, a2, ?_⟩
  rw [a1, a2]
  simpa using b3
theorem pl_post {X : Nat → Nat} {n wave lo hi : Nat} {N : Int} (k2 : isFin .f32 wave = true) (k5 : geF lo hi = false) (k6 : inB N 1 32 = true) (h1 : wvK X n lo = true) (h2 : wvK X n hi = true) (h3 : (lsF (wvA X n lo) wave == lsF (wvA X n hi) wave) = false) :
    (plQ X n wave lo hi N && plB X n wave lo hi) = true := by
  unfold wvK at h1 h2
  rw [Bool.and_eq_true] at h1 h2
  obtain ⟨o1, b1⟩ := h1
  obtain ⟨o2, b2⟩ := h2
  have a1 : wvA X n lo = atW X n lo n := by unfold wvA numQ; rw [o1, b1]; rfl
  have a2 : wvA X n hi = atW X n hi n := by unfold wvA numQ; rw [o2, b2]; rfl
  unfold okWav at o1 o2
  rw [Bool.and_eq_true] at o1 o2
  rw [a1, a2] at h3
  unfold plQ plB
  rw [o1.1, k2, o1.2, o2.2, k5, k6, b1, b2, h3]
  rfl
end Go.Proofs.Ytbblohjldkpcnab
