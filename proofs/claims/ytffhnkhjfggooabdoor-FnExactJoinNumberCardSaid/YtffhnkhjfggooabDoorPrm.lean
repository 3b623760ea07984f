/- How often the first primes are factors of a number: plain mathematics; what a block of counts holds. -/
import Derived.Test.YtffhnkhjfggooabDoorGcd
namespace Go.Proofs.YtffhnkhjfggooabDoor
open Go Go.ChangeShapes Go.WideShapes Go.ChangeAt Go.RowKit

def pr : Nat → Nat
  | 0 => 2
  | 1 => 3
  | 2 => 5
  | 3 => 7
  | 4 => 11
  | _ => 13
theorem pr_two (i : Nat) : 2 ≤ pr i ∧ pr i ≤ 13 := by
  unfold pr
  split <;> omega
def vpF : Nat → Nat → Nat → Nat
  | 0, _, _ => 0
  | f + 1, p, n => if n % p = 0 then vpF f p (n / p) + 1 else 0
def rsF : Nat → Nat → Nat → Nat
  | 0, _, n => n
  | f + 1, p, n => if n % p = 0 then rsF f p (n / p) else n
def vp (p n : Nat) : Nat := vpF 62 p n
def rs (p n : Nat) : Nat := rsF 62 p n
def restT (n : Nat) : Nat → Nat
  | 0 => n
  | i + 1 => rs (pr i) (restT n i)
/-- How often the prime of this place is a factor. -/
def expX (n i : Nat) : Nat := vp (pr i) (restT n i)
theorem vpF_le (f p n : Nat) : vpF f p n ≤ f := by
  induction f generalizing n with
  | zero => exact Nat.le_refl _
  | succ f ih =>
    unfold vpF
    split
    · have := ih (n / p); omega
    · omega
theorem rsF_rng (f p n : Nat) (hp : 2 ≤ p) (hn : 1 ≤ n) : 1 ≤ rsF f p n ∧ rsF f p n ≤ n := by
  induction f generalizing n with
  | zero => exact ⟨hn, Nat.le_refl _⟩
  | succ f ih =>
    unfold rsF
    split
    · rename_i h
      have h1 : p ≤ n := Nat.le_of_dvd (by omega) (Nat.dvd_of_mod_eq_zero h)
      have h2 : 1 ≤ n / p := (Nat.one_le_div_iff (by omega)).2 h1
      have h3 := ih (n / p) h2
      have h4 : n / p ≤ n := Nat.div_le_self _ _
      omega
    · exact ⟨hn, Nat.le_refl _⟩
theorem restT_rng (n i : Nat) (hn : 1 ≤ n) : 1 ≤ restT n i ∧ restT n i ≤ n := by
  induction i with
  | zero => exact ⟨hn, Nat.le_refl _⟩
  | succ i ih =>
    have h := rsF_rng 62 (pr i) (restT n i) (pr_two i).1 ih.1
    exact ⟨h.1, Nat.le_trans h.2 ih.2⟩
theorem expX_le (n i : Nat) : expX n i ≤ 62 := vpF_le _ _ _
/-- A number that is left while a prime is taken out of it: d times so far. -/
structure Mid (p V R c d : Nat) : Prop where
  pos : 1 ≤ c
  ex : ∃ f, c < 2 ^ f ∧ vpF f p c + d = V ∧ rsF f p c = R
  dle : d ≤ 62
  cle : c < 4611686018427387904
theorem mid_start {p n : Nat} (h1 : 1 ≤ n) (h2 : n < 2 ^ 62) : Mid p (vp p n) (rs p n) n 0 := ⟨h1, ⟨62, h2, rfl, rfl⟩, by omega, h2⟩
theorem mid_step {p V R c d : Nat} (h : Mid p V R c d) (hp : 2 ≤ p) (hV : V ≤ 62) (hc : c % p = 0) : Mid p V R (c / p) (d + 1) := by
  obtain ⟨f, hf, hv, hr⟩ := h.ex
  have hpos := h.pos
  cases f with
  | zero => simp at hf; omega
  | succ f =>
    have h1 : p ≤ c := Nat.le_of_dvd (by omega) (Nat.dvd_of_mod_eq_zero hc)
    have h2 : 1 ≤ c / p := (Nat.one_le_div_iff (by omega)).2 h1
    unfold vpF at hv
    unfold rsF at hr
    rw [if_pos hc] at hv hr
    refine ⟨h2, ⟨f, ?_, by omega, hr⟩, by omega, Nat.lt_of_le_of_lt (Nat.div_le_self _ _) h.cle⟩
    rw [Nat.pow_succ] at hf
    rw [Nat.div_lt_iff_lt_mul (by omega)]
    calc c < 2 ^ f * 2 := hf
      _ ≤ 2 ^ f * p := Nat.mul_le_mul_left _ hp
theorem mid_end {p V R c d : Nat} (h : Mid p V R c d) (hc : c % p ≠ 0) : d = V ∧ c = R := by
  obtain ⟨f, hf, hv, hr⟩ := h.ex
  have hpos := h.pos
  cases f with
  | zero => simp at hf; omega
  | succ f =>
    unfold vpF at hv
    unfold rsF at hr
    rw [if_neg hc] at hv hr
    exact ⟨by omega, hr⟩
/-- A block of counts. -/
def Exps (w : World) (g e N : Nat) (C : Nat → Int) : Prop := w.ownsRow 0 e 1 (.slice (some ⟨g, 0, none⟩) N N) N (rowI C N)
theorem Exps.congr {w : World} {g e N : Nat} {C D : Nat → Int} (h : Exps w g e N C) (hc : ∀ i, i < N → C i = D i) : Exps w g e N D := by
  unfold Exps at h ⊢
  rw [← rowI_congr hc]
  exact h
theorem Exps.cell {w : World} {g e N k : Nat} {C : Nat → Int} (h : Exps w g e N C) (hk : k < N) : w.cell? ⟨g, k, none⟩ = some (.int .i64 (C k)) := ownI_cell h hk
theorem Exps.frozen {w : World} {g e N k : Nat} {C : Nat → Int} (h : Exps w g e N C) : w.frozen? ⟨g, k, none⟩ = false := World.ownsRow.frozenAt h k
theorem Exps.stored {w : World} {g e N : Nat} {C : Nat → Int} (h : Exps w g e N C) (k : Nat) (u : Int) : Exps (w.setCell ⟨g, k, none⟩ (.int .i64 u)) g e N (fun j => if j = k then u else C j) := ownI_stored h k u
theorem Exps.lt {w : World} {g e N : Nat} {C : Nat → Int} (h : Exps w g e N C) : g < w.heap.size := own_lt h
theorem Exps.drew {w : World} {g e N : Nat} {C : Nat → Int} (h : Exps w g e N C) (k : Nat) : Exps (w.drewN k) g e N C := h
theorem Exps.below {w w' : World} {g e N : Nat} {C : Nat → Int} (h : Exps w g e N C) (hb : Below w.heap.size w w') : Exps w' g e N C := by
  refine ⟨h.1, ?_⟩
  rcases h.2 with h2 | ⟨b, cap, cur, h1, h2, h3, h4⟩
  · exact .inl h2
  · exact .inr ⟨b, cap, cur, h1, h2, (hb.block b (Array.getElem?_eq_some_iff.1 h3).1).trans h3, h4⟩
theorem Only.alloc {g : Nat} {w w' : World} (h : Only g w w') (o : Obj) : Only g w (w'.alloc o) := by
  obtain ⟨h1, h2, h3, h4, h5⟩ := h
  refine ⟨h1, h2, h3, by rw [World.size_alloc]; omega, fun k hk hne => ?_⟩
  rw [Below.heap_alloc _ _ _ (by omega)]
  exact h5 k hk hne
theorem Only.drew {g : Nat} {w w' : World} (h : Only g w w') (n : Nat) : Only g w (w'.drewN n) := by
  obtain ⟨h1, h2, h3, h4, h5⟩ := h
  have hb := Below.drewN (Below.refl w'.heap.size w') n
  exact ⟨hb.os.trans h1, hb.tape.trans h2, hb.output.trans h3, h4, h5⟩
theorem Only.trans {g : Nat} {w w' w'' : World} (h : Only g w w') (k : Only g w' w'') : Only g w w'' := by
  obtain ⟨h1, h2, h3, h4, h5⟩ := h
  obtain ⟨k1, k2, k3, k4, k5⟩ := k
  exact ⟨k1.trans h1, k2.trans h2, k3.trans h3, Nat.le_trans h4 k4, fun q hq hne => (k5 q (Nat.lt_of_lt_of_le hq h4) hne).trans (h5 q hq hne)⟩
theorem Only.cell {g : Nat} {w w' : World} (h : Only g w w') {a : Addr} (hl : a.block < w.heap.size) (hne : a.block ≠ g) : w'.cell? a = w.cell? a := by
  unfold World.cell?
  rw [h.2.2.2.2 a.block hl hne]
theorem Only.exps {g g' e N : Nat} {w w' : World} {C : Nat → Int} (h : Only g w w') (x : Exps w g' e N C) (hne : g' ≠ g) : Exps w' g' e N C := own_other x hne h
/-- What lies beyond a world's blocks may change. -/
theorem Only.below {g : Nat} {w w1 w' : World} (h : Only g w1 w') (hb : Below w.heap.size w w1) (hg : w.heap.size ≤ g) : Below w.heap.size w w' := by
  obtain ⟨h1, h2, h3, h4, h5⟩ := h
  exact ⟨h1.trans hb.os, h2.trans hb.tape, h3.trans hb.output, Nat.le_trans hb.size h4, fun k hk => (h5 k (Nat.lt_of_lt_of_le hk hb.size) (by omega)).trans (hb.block k hk)⟩
end Go.Proofs.YtffhnkhjfggooabDoor
