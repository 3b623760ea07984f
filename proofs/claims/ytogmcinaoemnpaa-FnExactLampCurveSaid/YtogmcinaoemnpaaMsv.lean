
/- Rows that are solved by steps: the mathematics, how rows lie, and what is told. -/
import Derived.Test.YtogmcinaoemnpaaFinL
import Derived.Test.YtogmcinaoemnpaaOrW
import Derived.Test.YtogmcinaoemnpaaHwP
import Derived.Test.YtogmcinaoemnpaaArr
import Derived.Deep.QuietTactic
import Derived.BigQuiet
import Derived.StillTailTactics
import Derived.Test.YtogmcinaoemnpaaNu5
import Derived.Maps.AppendAt
import Derived.Test.YtogmcinaoemnpaaRo
namespace Go.Proofs.Ytogmcinaoemnpaa
open Go Go.ChangeShapes Go.WideShapes Go.ChangeAt Go.RowKit
/- Rows that are solved by steps: two rules for the row to divide by. They choose the same row wherever no not-a-number stands in the column; where one does, neither rule's answer is finite, for a row with a not-a-number keeps one to the end. -/
set_option linter.all false

theorem fbin_nanL {op : BinOp} {x y : Nat} (h : isNaN .f32 x = true) : isNaN .f32 (fbin op .f32 x y) = true := by
  have : fbin op .f32 x y = qnan .f32 := by unfold fbin; rw [floatBits_left h]; rfl
  rw [this]; exact isNaN_qnan _
theorem fbin_nanR {op : BinOp} {x y : Nat} (h : isNaN .f32 y = true) : isNaN .f32 (fbin op .f32 x y) = true := by
  have : fbin op .f32 x y = qnan .f32 := by unfold fbin; rw [floatBits_right h]; rfl
  rw [this]; exact isNaN_qnan _
/-- Two rows change places. -/
def swp (M : Nat → Nat → Nat) (a b : Nat) : Nat → Nat → Nat := fun i j => if i = a then M b j else if i = b then M a j else M i j
/-- The rows behind the row k lose their number in the column k. -/
def elm (M : Nat → Nat → Nat) (k : Nat) : Nat → Nat → Nat := fun i j => if k < i ∧ k < j then fbin .sub .f32 (M i j) (fbin .mul .f32 (fbin .quo .f32 (M i k) (M k k)) (M k j)) else M i j
def gtF (x y : Nat) : Bool := FloatKind.f32.format.order x y == some .gt
def isZF (x : Nat) : Bool := FloatKind.f32.format.order x 0 == some .eq
/-- What the size of a number must be. -/
def SizeOk (S : Nat → Nat) : Prop := (∀ x, isNaN .f32 x = true → gtF (S x) 0 = false) ∧ ∀ x, x < 4294967296 → isNaN .f32 x = false → gtF (S x) 0 = !isZF x ∧ (gtF (S x) 0 = true ∨ S x = 0)
/-- The program's row, and its size, behind c rows from the row k on. -/
def pvP (S : Nat → Nat) (M : Nat → Nat → Nat) (k : Nat) : Nat → Nat × Nat
  | 0 => (k, 0)
  | c + 1 => if gtF (S (M (k + c) k)) (pvP S M k c).2 = true then (k + c, S (M (k + c) k)) else pvP S M k c
/-- The model's row, behind c rows from the row k + 1 on. -/
def pvM (S : Nat → Nat) (M : Nat → Nat → Nat) (k : Nat) : Nat → Nat
  | 0 => k
  | c + 1 => if gtF (S (M (k + 1 + c) k)) (S (M (pvM S M k c) k)) = true then k + 1 + c else pvM S M k c
theorem pvP_rng (S : Nat → Nat) (M : Nat → Nat → Nat) (k : Nat) : ∀ c, k ≤ (pvP S M k c).1 ∧ (pvP S M k c).1 < k + c + 1 := by
  intro c
  induction c with
  | zero => exact ⟨Nat.le_refl _, by show k < k + 0 + 1; omega⟩
  | succ c ih =>
    rw [pvP]
    split
    · exact ⟨by show k ≤ k + c; omega, by show k + c < _; omega⟩
    · exact ⟨ih.1, by omega⟩
theorem pvP_lt (S : Nat → Nat) (M : Nat → Nat → Nat) (k : Nat) : ∀ c, 1 ≤ c → (pvP S M k c).1 < k + c := by
  intro c
  induction c with
  | zero => intro h; omega
  | succ c ih =>
    intro _
    rw [pvP]
    split
    · show k + c < k + (c + 1); omega
    · by_cases h : 1 ≤ c
      · have := ih h; omega
      · have : c = 0 := by omega
        subst this
        show k < k + (0 + 1); omega
theorem pvM_rng (S : Nat → Nat) (M : Nat → Nat → Nat) (k : Nat) : ∀ c, k ≤ pvM S M k c ∧ pvM S M k c < k + 1 + c := by
  intro c
  induction c with
  | zero => exact ⟨Nat.le_refl _, by show k < k + 1 + 0; omega⟩
  | succ c ih =>
    rw [pvM]
    split
    · exact ⟨by omega, by omega⟩
    · exact ⟨ih.1, by omega⟩
def Wds (M : Nat → Nat → Nat) : Prop := ∀ i j, M i j < 4294967296
theorem fbin_word (op : BinOp) (x y : Nat) : fbin op .f32 x y < 4294967296 := by
  have := fbin_wf op .f32 x y
  simpa [Lit.wf] using this
theorem Wds.swp {M : Nat → Nat → Nat} (h : Wds M) (a b : Nat) : Wds (swp M a b) := fun i j => by
  unfold Proofs.Ytogmcinaoemnpaa.swp
  split
  · exact h _ _
  · split <;> exact h _ _
theorem Wds.elm {M : Nat → Nat → Nat} (h : Wds M) (k : Nat) : Wds (elm M k) := fun i j => by
  unfold Proofs.Ytogmcinaoemnpaa.elm
  split
  · exact fbin_word _ _ _
  · exact h _ _
theorem pv_same {S : Nat → Nat} (hS : SizeOk S) {M : Nat → Nat → Nat} (hM : Wds M) {k : Nat} : ∀ c, (∀ i, i < c + 1 → isNaN .f32 (M (k + i) k) = false) → pvP S M k (c + 1) = (pvM S M k c, S (M (pvM S M k c) k)) := by
  intro c
  induction c with
  | zero =>
    intro h
    have h0 := (hS.2 _ (hM _ _) (h 0 (by omega))).2
    rw [pvP, pvP, pvM]
    rw [Nat.add_zero] at h0 ⊢
    rcases h0 with e | e
    · rw [if_pos e]
    · by_cases g : gtF (S (M k k)) 0 = true
      · rw [if_pos g]
      · rw [if_neg g, e]
  | succ c ih =>
    intro h
    have e := ih fun i hi => h i (by omega)
    rw [pvP, e, pvM, show k + (c + 1) = k + 1 + c by omega]
    split <;> rfl
/-- The rows behind k steps, and whether all went well. -/
def runP (S : Nat → Nat) (n : Nat) (M : Nat → Nat → Nat) : Nat → (Nat → Nat → Nat) × Bool
  | 0 => (M, true)
  | k + 1 =>
    let R := runP S n M k
    let T := swp R.1 k (pvP S R.1 k (n - k)).1
    (elm T k, R.2 && gtF (S (T k k)) 0)
def runM (S : Nat → Nat) (n : Nat) (M : Nat → Nat → Nat) : Nat → (Nat → Nat → Nat) × Bool
  | 0 => (M, true)
  | k + 1 =>
    let R := runM S n M k
    let T := swp R.1 k (pvM S R.1 k (n - 1 - k))
    (elm T k, R.2 && !isZF (T k k))
/-- What is left of the right side of the row r behind c numbers. -/
def rstW (M : Nat → Nat → Nat) (F : Nat → Nat) (n r : Nat) : Nat → Nat
  | 0 => M r n
  | c + 1 => fbin .sub .f32 (rstW M F n r c) (fbin .mul .f32 (M r (r + 1 + c)) (F (r + 1 + c)))
/-- The solution, from its end, behind c rows. -/
def bkW (M : Nat → Nat → Nat) (n : Nat) : Nat → Nat → Nat
  | 0 => fun _ => 0
  | c + 1 => fun j => if j = n - 1 - c then fbin .quo .f32 (rstW M (bkW M n c) n (n - 1 - c) c) (M (n - 1 - c) (n - 1 - c)) else bkW M n c j
/-- A row from k on holds a not-a-number. -/
def Poi (n : Nat) (M : Nat → Nat → Nat) (k : Nat) : Prop := ∃ r c, k ≤ r ∧ r < n ∧ k ≤ c ∧ c ≤ n ∧ isNaN .f32 (M r c) = true
theorem poi_swp {n : Nat} {M : Nat → Nat → Nat} {k p : Nat} (hk : k ≤ p) (hp : p < n) (h : Poi n M k) : Poi n (swp M k p) k := by
  obtain ⟨r, c, h1, h2, h3, h4, h5⟩ := h
  by_cases e1 : r = k
  · refine ⟨p, c, hk, hp, h3, h4, ?_⟩
    unfold swp
    by_cases e2 : p = k
    · rw [if_pos e2, e2, ← e1]; exact h5
    · rw [if_neg e2, if_pos rfl, ← e1]; exact h5
  · by_cases e2 : r = p
    · refine ⟨k, c, Nat.le_refl _, by omega, h3, h4, ?_⟩
      unfold swp
      rw [if_pos rfl, ← e2]; exact h5
    · refine ⟨r, c, h1, h2, h3, h4, ?_⟩
      unfold swp
      rw [if_neg e1, if_neg e2]; exact h5
theorem poi_elm {n : Nat} {M : Nat → Nat → Nat} {k : Nat} (hk : k + 1 < n) (h : Poi n M k) : Poi n (elm M k) (k + 1) := by
  obtain ⟨r, c, h1, h2, h3, h4, h5⟩ := h
  have hat : ∀ i j, k < i → k < j → elm M k i j = fbin .sub .f32 (M i j) (fbin .mul .f32 (fbin .quo .f32 (M i k) (M k k)) (M k j)) := fun i j hi hj => by unfold elm; rw [if_pos ⟨hi, hj⟩]
  by_cases e1 : r = k
  · subst e1
    by_cases e2 : c = r
    · subst e2
      refine ⟨c + 1, n, Nat.le_refl _, hk, by omega, Nat.le_refl _, ?_⟩
      rw [hat _ _ (by omega) (by omega)]
      exact fbin_nanR (fbin_nanL (fbin_nanR h5))
    · refine ⟨r + 1, c, Nat.le_refl _, hk, by omega, h4, ?_⟩
      rw [hat _ _ (by omega) (by omega)]
      exact fbin_nanR (fbin_nanR h5)
  · by_cases e2 : c = k
    · subst e2
      refine ⟨r, n, by omega, h2, by omega, Nat.le_refl _, ?_⟩
      rw [hat _ _ (by omega) (by omega)]
      exact fbin_nanR (fbin_nanL (fbin_nanL h5))
    · refine ⟨r, c, by omega, h2, by omega, h4, ?_⟩
      rw [hat _ _ (by omega) (by omega)]
      exact fbin_nanL h5
/-- It comes to nothing: a step has failed, or a row holds a not-a-number. -/
def Doom (n k : Nat) (R : (Nat → Nat → Nat) × Bool) : Prop := R.2 = false ∨ Poi n R.1 (min k (n - 1))
theorem doom_step {n k p : Nat} {R : (Nat → Nat → Nat) × Bool} {b : Bool} (hk : k < n) (hp : k ≤ p) (hp' : p < n) (h : Doom n k R) : Doom n (k + 1) (elm (swp R.1 k p) k, R.2 && b) := by
  rcases h with h | h
  · exact .inl (by show (R.2 && b) = false; rw [h]; rfl)
  · right
    rw [show min k (n - 1) = k by omega] at h
    have h' := poi_swp hp hp' h
    by_cases e : k + 1 < n
    · rw [show min (k + 1) (n - 1) = k + 1 by omega]
      exact poi_elm e h'
    · obtain ⟨r, c, h1, h2, h3, h4, h5⟩ := h'
      refine ⟨r, c, by omega, h2, by omega, h4, ?_⟩
      show isNaN .f32 (elm _ k r c) = true
      unfold elm
      rw [if_neg (by omega)]
      exact h5
theorem runM_words {S : Nat → Nat} {n : Nat} {M : Nat → Nat → Nat} (hM : Wds M) : ∀ k, Wds (runM S n M k).1 := by
  intro k
  induction k with
  | zero => exact hM
  | succ k ih => exact (ih.swp _ _).elm _
theorem run_same {S : Nat → Nat} (hS : SizeOk S) {n : Nat} {M : Nat → Nat → Nat} (hM : Wds M) : ∀ k, k ≤ n → runP S n M k = runM S n M k ∨ (Doom n k (runP S n M k) ∧ Doom n k (runM S n M k)) := by
  intro k
  induction k with
  | zero => intro _; exact .inl rfl
  | succ k ih =>
    intro hk
    have hkn : k < n := by omega
    have pr : ∀ T, k ≤ (pvP S T k (n - k)).1 ∧ (pvP S T k (n - k)).1 < n := fun T => ⟨(pvP_rng S T k _).1, by have := pvP_lt S T k (n - k) (by omega); omega⟩
    have mr : ∀ T, k ≤ pvM S T k (n - 1 - k) ∧ pvM S T k (n - 1 - k) < n := fun T => ⟨(pvM_rng S T k _).1, by have := (pvM_rng S T k (n - 1 - k)).2; omega⟩
    rcases ih (by omega) with e | ⟨d1, d2⟩
    · by_cases hn : ∀ i, i < n - k → isNaN .f32 ((runM S n M k).1 (k + i) k) = false
      · left
        have ep : pvP S (runM S n M k).1 k (n - k) = (pvM S (runM S n M k).1 k (n - 1 - k), S ((runM S n M k).1 (pvM S (runM S n M k).1 k (n - 1 - k)) k)) := by
          have := pv_same hS (runM_words hM k) (k := k) (n - 1 - k) (fun i hi => hn i (by omega))
          rw [show n - 1 - k + 1 = n - k by omega] at this
          exact this
        have hd : isNaN .f32 (swp (runM S n M k).1 k (pvM S (runM S n M k).1 k (n - 1 - k)) k k) = false := by
          unfold swp
          rw [if_pos rfl]
          have := mr (runM S n M k).1
          have h2 := hn (pvM S (runM S n M k).1 k (n - 1 - k) - k) (by omega)
          rwa [show k + (pvM S (runM S n M k).1 k (n - 1 - k) - k) = pvM S (runM S n M k).1 k (n - 1 - k) by omega] at h2
        have hz := (hS.2 _ ((runM_words hM k).swp _ _ _ _) hd).1
        rw [runP, runM, e]
        simp only [ep]
        rw [hz]
      · right
        have hp : Poi n (runM S n M k).1 k := by
          have ⟨i, hi⟩ := Classical.not_forall.1 hn
          have ⟨hi1, hi2⟩ := Classical.not_imp.1 hi
          exact ⟨k + i, k, by omega, by omega, Nat.le_refl _, by omega, by simpa using hi2⟩
        have D : Doom n k (runM S n M k) := .inr (by rw [show min k (n - 1) = k by omega]; exact hp)
        refine ⟨?_, ?_⟩
        · rw [runP, e]; exact doom_step hkn (pr _).1 (pr _).2 D
        · rw [runM]; exact doom_step hkn (mr _).1 (mr _).2 D
    · right
      refine ⟨?_, ?_⟩
      · rw [runP]; exact doom_step hkn (pr _).1 (pr _).2 d1
      · rw [runM]; exact doom_step hkn (mr _).1 (mr _).2 d2
theorem bk_top {M : Nat → Nat → Nat} {n : Nat} (hn : 1 ≤ n) : ∀ c, c + 1 ≤ n → bkW M n (c + 1) (n - 1) = fbin .quo .f32 (M (n - 1) n) (M (n - 1) (n - 1)) := by
  intro c
  induction c with
  | zero => intro _; rw [bkW]; simp only [Nat.sub_zero, if_true]; rfl
  | succ c ih =>
    intro hc
    rw [bkW]
    show (if n - 1 = n - 1 - (c + 1) then _ else bkW M n (c + 1) (n - 1)) = _
    rw [if_neg (by omega)]
    exact ih (by omega)
theorem fin_notNaN {x : Nat} (h : isNaN .f32 x = true) : isFin .f32 x = false := by
  unfold isNaN at h
  unfold isFin
  rw [h]
  rfl
theorem doom_end {n : Nat} (hn : 1 ≤ n) {R : (Nat → Nat → Nat) × Bool} (h : Doom n n R) : (R.2 && finL (bkW R.1 n n) n) = false := by
  rcases h with h | h
  · rw [h]; rfl
  · rw [show min n (n - 1) = n - 1 by omega] at h
    obtain ⟨r, c, h1, h2, h3, h4, h5⟩ := h
    have er : r = n - 1 := by omega
    subst er
    have e := bk_top (M := R.1) hn (n - 1) (by omega)
    rw [show n - 1 + 1 = n by omega] at e
    have hnan : isNaN .f32 (bkW R.1 n n (n - 1)) = true := by
      rw [e]
      by_cases ec : c = n
      · rw [ec] at h5; exact fbin_nanL h5
      · rw [show c = n - 1 by omega] at h5; exact fbin_nanR h5
    rw [finL_no (k := n - 1) (by omega) (fin_notNaN hnan), Bool.and_false]
/-- Both rules: it goes well by the one just where it does by the other, and then to the same solution. -/
theorem solve_same {S : Nat → Nat} (hS : SizeOk S) {n : Nat} (hn : 1 ≤ n) (M : Nat → Nat → Nat) (hM : Wds M) :
    ((runP S n M n).2 && finL (bkW (runP S n M n).1 n n) n) = ((runM S n M n).2 && finL (bkW (runM S n M n).1 n n) n) ∧
    (((runM S n M n).2 && finL (bkW (runM S n M n).1 n n) n) = true → bkW (runP S n M n).1 n n = bkW (runM S n M n).1 n n) := by
  rcases run_same hS hM n (Nat.le_refl _) with e | ⟨d1, d2⟩
  · rw [e]; exact ⟨rfl, fun _ => rfl⟩
  · rw [doom_end hn d1, doom_end hn d2]
    exact ⟨rfl, fun h => by cases h⟩

/- The size of a number as the greater of it and its opposite: what it is, and what is asked of it. -/
set_option linter.all false

def szF (x : Nat) : Nat := if isNaN .f32 x = true then qnan .f32 else x % 2147483648
theorem word_mod (s : Bool) (r : Nat) (h : r < 2147483648) : Ieee.single.word s r % 2147483648 = Ieee.single.word false r := by
  have hsw : Ieee.single.signWeight = 2147483648 := rfl
  unfold Ieee.Format.word
  rw [hsw]
  cases s <;> simp <;> omega
theorem szF_nan {x : Nat} (h : isNaN .f32 x = true) : szF x = qnan .f32 := by unfold szF; rw [if_pos h]
theorem szF_word {s : Bool} {r : Nat} (h : r < 2147483648) (hn : isNaN .f32 (Ieee.single.word s r) = false) : szF (Ieee.single.word s r) = Ieee.single.word false r := by
  unfold szF
  rw [if_neg (by rw [hn]; simp), word_mod s r h]
theorem szF_pick (x s : Nat) : szF (pick .f32 x s) = szF x := by
  cases h : isNaN .f32 x
  · rw [pick_num h]
  · rw [szF_nan h, szF_nan (by rw [isNaN_pick]; exact h)]
theorem absmax_word (s : Bool) (r : Nat) (h : r ≤ 2139095040) (P : Program) (ts : Array TypeId) (t : TypeId) (w : World) :
    (Builtin.max_ ts t #[.float .f32 (Ieee.single.word s r), .float .f32 (Op.negFloat .f32 (Ieee.single.word s r))]).run P w = .ok (.float .f32 (Ieee.single.word false r)) w := by
  rw [neg_wordR s r (by omega)]
  by_cases hr : r < 2139095040
  · rw [run_max32 P ts t s (!s) r r hr hr]
    congr 2
    by_cases h0 : r = 0
    · subst h0
      cases s <;> decide +kernel
    · cases s
      · rw [show lessW false r (!false) r = false from lessW_gt (by unfold sgR; simp; omega), if_neg (by simp)]
      · rw [show lessW true r (!true) r = true from lessW_lt (by unfold sgR; simp; omega), if_pos rfl]; rfl
  · obtain rfl : r = 2139095040 := by omega
    rw [max2_eq]
    have e1 : FloatKind.f32.format.order (Ieee.single.word false 2139095040) (Ieee.single.word true 2139095040) = some .gt := by decide +kernel
    have e2 : FloatKind.f32.format.order (Ieee.single.word true 2139095040) (Ieee.single.word false 2139095040) = some .lt := by decide +kernel
    cases s
    · simp only [Builtin.max2, Bool.not_false, e1]
      rfl
    · simp only [Builtin.max2, Bool.not_true, e2]
      rfl
def sdm (w : World) (x y : Nat) : Nat := w.tape w.drawn (.nanMinMax .f32 true x y)
theorem nanw_max (x y t : Nat) : Question.cut (.nanMinMax .f32 true x y) t = nanw .f32 t := rfl
theorem run_size (x : Nat) (hx : x < 4294967296) (P : Program) (ts : Array TypeId) (t : TypeId) (w : World) :
    (Builtin.max_ ts t #[.float .f32 x, .float .f32 (Op.negFloat .f32 x)]).run P w = .ok (.float .f32 (pick .f32 (szF x) (sdm w x (Op.negFloat .f32 x)))) (w.drewN (nd .f32 (szF x))) := by
  cases hn : isNaN .f32 x
  · obtain ⟨s, r, h1, rfl⟩ := word_of x hx
    have h2 := nan_word h1 hn
    rw [absmax_word s r h2, szF_word h1 hn]
    have hn2 : isNaN .f32 (Ieee.single.word false r) = false := by
      by_cases hr : r < 2139095040
      · obtain ⟨m, e, h3, _⟩ := rung_read false r hr
        simp [isNaN, FloatKind.decode, h3, Ieee.Datum.isNaN]
      · obtain rfl : r = 2139095040 := by omega
        simp [isNaN, FloatKind.decode, read_inf, Ieee.Datum.isNaN]
    rw [pick_num hn2, nd, if_neg (by rw [hn2]; simp)]
    rfl
  · rw [szF_nan hn, max2_eq, pick_nan (isNaN_qnan _), nd, if_pos (isNaN_qnan _)]
    have hr : (choose (.nanMinMax .f32 true x (Op.negFloat .f32 x))).run P w = .ok (nanw .f32 (sdm w x (Op.negFloat .f32 x))) (w.drewN 1) := by rw [← nanw_max x (Op.negFloat .f32 x)]; rfl
    simp only [Builtin.max2, order_left hn]
    simp [hr, -run_choose, -run_choose_drew]
theorem size_ok : SizeOk szF := by
  refine ⟨fun x h => ?_, fun x hx hn => ?_⟩
  · rw [szF_nan h]
    unfold gtF
    rw [order_left (isNaN_qnan _)]
    rfl
  · obtain ⟨s, r, h1, rfl⟩ := word_of x hx
    have h2 := nan_word h1 hn
    rw [szF_word h1 hn]
    have hz : (0 : Nat) = Ieee.single.word false 0 := rfl
    by_cases hr : r < 2139095040
    · by_cases h0 : r = 0
      · subst h0
        cases s
        · exact ⟨by decide +kernel, .inr rfl⟩
        · exact ⟨by decide +kernel, .inr rfl⟩
      · have e1 : gtF (Ieee.single.word false r) 0 = true := by
          unfold gtF
          rw [hz, ord_words false false r 0 hr (by omega), Int.compare_eq_gt.2 (by unfold sgR; simp; omega)]
          rfl
        have e2 : isZF (Ieee.single.word s r) = false := by
          unfold isZF
          rw [hz, ord_words s false r 0 hr (by omega)]
          cases s
          · rw [Int.compare_eq_gt.2 (by unfold sgR; simp; omega)]; rfl
          · rw [Int.compare_eq_lt.2 (by unfold sgR; simp; omega)]; rfl
        rw [e1, e2]
        exact ⟨rfl, .inl rfl⟩
    · obtain rfl : r = 2139095040 := by omega
      cases s
      · exact ⟨by decide +kernel, .inl (by decide +kernel)⟩
      · exact ⟨by decide +kernel, .inl (by decide +kernel)⟩

/- Rows of one's own that are solved by steps: how they lie, what a store and an exchange change, and the row that is divided by. -/
set_option linter.all false

/-- n rows of m numbers, each in a block of its own, behind the blocks that were there. -/
structure Mat (w : World) (B xb n m : Nat) (R C : Nat → Nat) (V : Nat → Nat → Nat) : Prop where
  row : ∀ i, i < n → w.cell? ⟨xb, i, none⟩ = some (.slice (some ⟨R i, 0, none⟩) m (C i))
  rowF : ∀ i, i < n → w.frozen? ⟨xb, i, none⟩ = false
  room : ∀ i, i < n → m ≤ C i
  num : ∀ i, i < n → ∀ j, j < m → w.cell? ⟨R i, j, none⟩ = some (.float .f32 (V i j))
  numF : ∀ i, i < n → ∀ j, j < m → w.frozen? ⟨R i, j, none⟩ = false
  ge : ∀ i, i < n → B ≤ R i
  apart : ∀ i, i < n → R i ≠ xb
  base : B ≤ xb
  one : ∀ i i', i < n → i' < n → R i = R i' → i = i'
theorem Mat.drew {w : World} {B xb n m : Nat} {R C : Nat → Nat} {V : Nat → Nat → Nat} (h : Mat w B xb n m R C V) (q : Nat) : Mat (w.drewN q) B xb n m R C V := ⟨h.row, h.rowF, h.room, h.num, h.numF, h.ge, h.apart, h.base, h.one⟩
theorem Mat.congr {w : World} {B xb n m : Nat} {R C : Nat → Nat} {V V' : Nat → Nat → Nat} (h : Mat w B xb n m R C V) (e : ∀ i, i < n → ∀ j, j < m → V i j = V' i j) : Mat w B xb n m R C V' :=
  ⟨h.row, h.rowF, h.room, fun i hi j hj => by rw [← e i hi j hj]; exact h.num i hi j hj, h.numF, h.ge, h.apart, h.base, h.one⟩
theorem Mat.below {w w' : World} {B xb n m : Nat} {R C : Nat → Nat} {V : Nat → Nat → Nat} (h : Mat w B xb n m R C V) (hb : Below w.heap.size w w') : Mat w' B xb n m R C V := by
  have hc : ∀ a u, w.cell? a = some u → w'.cell? a = some u := fun a u hu => (hb.cell (p := a) (World.block_lt_of_cell? w _ hu)).trans hu
  have hf : ∀ a u, w.cell? a = some u → w.frozen? a = false → w'.frozen? a = false := fun a u hu hz => by
    have e := hb.5 a.block (World.block_lt_of_cell? w _ hu)
    rw [← hz]
    unfold World.frozen?
    simp only [e]
  exact ⟨fun i hi => hc _ _ (h.row i hi), fun i hi => hf _ _ (h.row i hi) (h.rowF i hi), h.room, fun i hi j hj => hc _ _ (h.num i hi j hj), fun i hi j hj => hf _ _ (h.num i hi j hj) (h.numF i hi j hj), h.ge, h.apart, h.base, h.one⟩
theorem Mat.set {w : World} {B xb n m : Nat} {R C : Nat → Nat} {V : Nat → Nat → Nat} (h : Mat w B xb n m R C V) {i j : Nat} (hi : i < n) (hj : j < m) (u : Nat) :
    Mat (w.setCell ⟨R i, j, none⟩ (.float .f32 u)) B xb n m R C (fun a b => if a = i ∧ b = j then u else V a b) := by
  refine ⟨fun a ha => ?_, fun a ha => by rw [World.frozen?_setCell]; exact h.rowF a ha, h.room, fun a ha b hb => ?_, fun a ha b hb => by rw [World.frozen?_setCell]; exact h.numF a ha b hb, h.ge, h.apart, h.base, h.one⟩
  · rw [World.cell?_setCell_other _ _ _ _ (by intro e; injection e with e1; exact h.apart i hi e1)]
    exact h.row a ha
  · by_cases e : a = i ∧ b = j
    · rw [if_pos e, e.1, e.2]
      exact World.cell?_setCell_same _ _ _ (h.num i hi j hj)
    · rw [if_neg e, World.cell?_setCell_other _ _ _ _ (by
        intro e'
        injection e' with e1 e2
        exact e ⟨(h.one i a hi ha e1).symm, e2.symm⟩)]
      exact h.num a ha b hb
/-- Two rows change places: of the pointers, not of the numbers. -/
theorem Mat.swap {w : World} {B xb n m : Nat} {R C : Nat → Nat} {V : Nat → Nat → Nat} (h : Mat w B xb n m R C V) {k p : Nat} (hk : k < n) (hp : p < n) :
    Mat ((w.setCell ⟨xb, k, none⟩ (.slice (some ⟨R p, 0, none⟩) m (C p))).setCell ⟨xb, p, none⟩ (.slice (some ⟨R k, 0, none⟩) m (C k))) B xb n m
      (fun i => if i = k then R p else if i = p then R k else R i) (fun i => if i = k then C p else if i = p then C k else C i) (swp V k p) := by
  have hrow : ∀ a, a < n → ∃ u, w.cell? ⟨xb, a, none⟩ = some u := fun a ha => ⟨_, h.row a ha⟩
  refine ⟨fun a ha => ?_, fun a ha => by rw [World.frozen?_setCell, World.frozen?_setCell]; exact h.rowF a ha, fun a ha => ?_, fun a ha b hb => ?_, fun a ha b hb => ?_, fun a ha => ?_, fun a ha => ?_, h.base, fun a a' ha ha' e => ?_⟩
  · by_cases e1 : a = p
    · subst e1
      have e0 : (w.setCell ⟨xb, k, none⟩ (.slice (some ⟨R a, 0, none⟩) m (C a))).cell? ⟨xb, a, none⟩ = some (if a = k then .slice (some ⟨R a, 0, none⟩) m (C a) else .slice (some ⟨R a, 0, none⟩) m (C a)) := by
        by_cases e2 : k = a
        · subst e2
          rw [if_pos rfl]
          exact World.cell?_setCell_same _ _ _ (h.row k hk)
        · rw [World.cell?_setCell_other _ _ _ _ (by intro e; injection e with _ e3; exact e2 e3), if_neg (fun e => e2 e.symm)]
          exact h.row a ha
      rw [World.cell?_setCell_same _ _ _ e0]
      by_cases e2 : a = k
      · subst e2
        simp
      · rw [if_neg e2, if_pos rfl, if_neg e2, if_pos rfl]
    · rw [World.cell?_setCell_other _ _ _ _ (by intro e; injection e with _ e3; exact e1 e3.symm)]
      by_cases e2 : a = k
      · subst e2
        rw [World.cell?_setCell_same _ _ _ (h.row a ha), if_pos rfl, if_pos rfl]
      · rw [World.cell?_setCell_other _ _ _ _ (by intro e; injection e with _ e3; exact e2 e3.symm), if_neg e2, if_neg e1, if_neg e2, if_neg e1]
        exact h.row a ha
  · show m ≤ (if a = k then C p else if a = p then C k else C a)
    split
    · exact h.room p hp
    · split
      · exact h.room k hk
      · exact h.room a ha
  · show _ = some (Value.float .f32 (swp V k p a b))
    have hne : ∀ c, c < n → ∀ z v (w0 : World), (w0.setCell ⟨xb, z, none⟩ v).cell? ⟨R c, b, none⟩ = w0.cell? ⟨R c, b, none⟩ := fun c hc z v w0 => World.cell?_setCell_other _ _ _ _ (by intro e; injection e with e1; exact h.apart c hc e1.symm)
    unfold swp
    by_cases e1 : a = k
    · simp only [if_pos e1]
      rw [hne p hp, hne p hp]
      exact h.num p hp b hb
    · by_cases e2 : a = p
      · simp only [if_neg e1, if_pos e2]
        rw [hne k hk, hne k hk]
        exact h.num k hk b hb
      · simp only [if_neg e1, if_neg e2]
        rw [hne a ha, hne a ha]
        exact h.num a ha b hb
  · rw [World.frozen?_setCell, World.frozen?_setCell]
    show w.frozen? ⟨(if a = k then R p else if a = p then R k else R a), b, none⟩ = false
    split
    · exact h.numF p hp b hb
    · split
      · exact h.numF k hk b hb
      · exact h.numF a ha b hb
  · show B ≤ (if a = k then R p else if a = p then R k else R a)
    split
    · exact h.ge p hp
    · split
      · exact h.ge k hk
      · exact h.ge a ha
  · show (if a = k then R p else if a = p then R k else R a) ≠ xb
    split
    · exact h.apart p hp
    · split
      · exact h.apart k hk
      · exact h.apart a ha
  · have e' : (if a = k then R p else if a = p then R k else R a) = (if a' = k then R p else if a' = p then R k else R a') := e
    have hx : ∀ c, (if c = k then R p else if c = p then R k else R c) = R (if c = k then p else if c = p then k else c) := by
      intro c
      split
      · rfl
      · split <;> rfl
    rw [hx, hx] at e'
    have hb : ∀ c, c < n → (if c = k then p else if c = p then k else c) < n := by
      intro c hc
      split
      · exact hp
      · split
        · exact hk
        · exact hc
    have := h.one _ _ (hb a ha) (hb a' ha') e'
    split at this <;> split at this <;> (try split at this) <;> (try split at this) <;> omega

/- Rows that are solved by steps: the row that the program divides by. -/
set_option linter.all false

def WdR (n m : Nat) (V : Nat → Nat → Nat) : Prop := ∀ i, i < n → ∀ j, j < m → V i j < 4294967296
set_option maxRecDepth 100000 in
set_option maxHeartbeats 3200000 in
theorem rowOf_any (B xb n m cap k : Nat) (R C : Nat → Nat) (V : Nat → Nat → Nat) (w : World) (h : Mat w B xb n m R C V) (hk : k < n) (hkm : k < m) (hw : WdR n m V) (hn : n ≤ 64) :
    Calls Try.prog 96 #[.slice (some ⟨xb, 0, none⟩) n cap, .int .i64 (k : Int)] w fun e w' => e = .returned (.int .i64 ((pvP szF V k (n - k)).1 : Int)) ∧ ∃ q, w' = w.drewN q := by
  have H := Lib.hid h
  have HW := Lib.hid hw
  clear h hw
  go_enter Try.func96, Try.ntmps96
  go_wp2
  go_loopw [5, 6, 7] (fun f mo i wr => ∃ c q : Nat, c ≤ n - k ∧ i = .int .i64 ((k + c : Nat) : Int) ∧ f = .int .i64 ((pvP szF V k c).1 : Int) ∧ mo = .float .f32 (pvP szF V k c).2 ∧ wr = w.drewN q) (fun _ _ i _ => n - (intOf i).toNat)
  case atStart => exact ⟨0, 0, Nat.zero_le _, rfl, rfl, rfl, rfl⟩
  case round =>
    obtain ⟨c, q, hc, rfl, rfl, rfl, hwr⟩ := hrel
    by_cases hlt : k + c < n
    · have HZ := Lib.hid hwr
      have r1 : wr.cell? ⟨xb, k + c, none⟩ = some (.slice (some ⟨R (k + c), 0, none⟩) m (C (k + c))) := by rw [hwr]; exact H.out.row (k + c) hlt
      have r2 : wr.cell? ⟨R (k + c), k, none⟩ = some (.float .f32 (V (k + c) k)) := by rw [hwr]; exact H.out.num (k + c) hlt k hkm
      have hx := HW.out (k + c) hlt k hkm
      obtain ⟨i, hi⟩ : ∃ i, i = k + c := ⟨_, rfl⟩
      have HI := Lib.hid hi
      rw [← hi] at r1 r2 hx hlt ⊢
      have HS : Hid (pvP szF V k (c + 1) = if gtF (szF (V i k)) (pvP szF V k c).2 = true then (i, szF (V i k)) else pvP szF V k c) := Lib.hid (by rw [pvP, hi])
      obtain ⟨x, hxv⟩ : ∃ x, x = V i k := ⟨_, rfl⟩
      rw [← hxv] at r2 hx HS
      have hmax := fun ts t w => run_size x hx Try.prog ts t w
      have hneg : ∀ w, (Op.unary UnOp.neg (.float .f32 x)).run Try.prog w = .ok (.float .f32 (Op.negFloat .f32 x)) w := fun w => rfl
      obtain ⟨y, hy⟩ : ∃ y, y = Op.negFloat .f32 x := ⟨_, rfl⟩
      rw [← hy] at hmax hneg
      clear hy
      obtain ⟨f, hf⟩ : ∃ f, f = (pvP szF V k c).1 := ⟨_, rfl⟩
      obtain ⟨mo, hmo⟩ : ∃ mo, mo = (pvP szF V k c).2 := ⟨_, rfl⟩
      have HP := Lib.hid (show pvP szF V k c = (f, mo) by rw [hf, hmo])
      rw [← hmo] at HS
      rw [← hf, ← hmo]
      obtain ⟨z, hz⟩ : ∃ z, z = szF x := ⟨_, rfl⟩
      rw [← hz] at hmax HS
      have hiN : (i : Int) < (n : Int) := by omega
      have hkM : (k : Int) < (m : Int) := by omega
      clear hwr hi hxv hf hmo hz hx hc
      cases hg : gtF z mo
      · have hg2 : (FloatKind.f32.format.order z mo == some .gt) = false := hg
        have hgp : ∀ s, (FloatKind.f32.format.order (pick .f32 z s) mo == some .gt) = false := fun s => by rw [order_pick_l]; exact hg2
        rw [hg, if_neg (by simp), HP.out] at HS
        go_wp2_with fail
        go_region
        all_goals go_wp2
        all_goals go_roundw
        case measure => simp [intOf]; omega
        case rel =>
          have e1 := HI.out
          have e2 := HZ.out
          refine ⟨c + 1, _, by omega, ?_, by rw [HS.out], by rw [HS.out], by rw [e2, World.drewN_drewN]⟩
          rw [show k + (c + 1) = i + 1 by omega]
          go_num
      · have hg2 : (FloatKind.f32.format.order z mo == some .gt) = true := hg
        have hzn : isNaN .f32 z = false := by
          cases e : isNaN .f32 z
          · rfl
          · rw [order_left e] at hg2; cases hg2
        have hpk : ∀ s, pick .f32 z s = z := fun s => pick_num hzn s
        rw [hg, if_pos rfl] at HS
        go_wp2_with fail
        go_region
        all_goals go_wp2
        all_goals go_roundw
        case measure => simp [intOf]; omega
        case rel =>
          have e1 := HI.out
          have e2 := HZ.out
          refine ⟨c + 1, _, by omega, ?_, by rw [HS.out], by rw [HS.out], by rw [e2, World.drewN_drewN]⟩
          rw [show k + (c + 1) = i + 1 by omega]
          go_num
    · have hcn : c = n - k := by omega
      subst hcn
      go_wp2
      go_ret
      exact ⟨rfl, _, rfl⟩

/- Rows that are solved by steps: what is known of the numbers while the steps go on. -/
set_option linter.all false

/-- The numbers are those of M, and where one of M is a not-a-number, any. -/
def LikeM (n m : Nat) (V M : Nat → Nat → Nat) : Prop := ∀ i, i < n → ∀ j, j < m → ∃ s, V i j = pick .f32 (M i j) s
theorem LikeM.congr {n m : Nat} {V M M' : Nat → Nat → Nat} (h : LikeM n m V M) (e : ∀ i, i < n → ∀ j, j < m → M i j = M' i j) : LikeM n m V M' := fun i hi j hj => by rw [← e i hi j hj]; exact h i hi j hj
theorem LikeM.words {n m : Nat} {V M : Nat → Nat → Nat} (h : LikeM n m V M) (hM : Wds M) : WdR n m V := fun i hi j hj => by
  obtain ⟨s, e⟩ := h i hi j hj
  rw [e]
  have := pick_wf (k := .f32) (X := M i j) (by simpa [Lit.wf] using hM i j) s
  simpa [Lit.wf] using this
theorem LikeM.set {n m : Nat} {V M : Nat → Nat → Nat} (h : LikeM n m V M) (a b : Nat) {u r s : Nat} (hu : u = pick .f32 r s) : LikeM n m (fun i j => if i = a ∧ j = b then u else V i j) (fun i j => if i = a ∧ j = b then r else M i j) := fun i hi j hj => by
  by_cases e : i = a ∧ j = b
  · exact ⟨s, by simp only [if_pos e]; exact hu⟩
  · obtain ⟨t, ht⟩ := h i hi j hj
    exact ⟨t, by simp only [if_neg e]; exact ht⟩
theorem LikeM.swap {n m : Nat} {V M : Nat → Nat → Nat} (h : LikeM n m V M) {k p : Nat} (hk : k < n) (hp : p < n) : LikeM n m (swp V k p) (swp M k p) := fun i hi j hj => by
  unfold swp
  split
  · exact h p hp j hj
  · split
    · exact h k hk j hj
    · exact h i hi j hj
theorem pvP_like {n m : Nat} {V M : Nat → Nat → Nat} (h : LikeM n m V M) {k : Nat} (hkm : k < m) : ∀ c, k + c ≤ n → pvP szF V k c = pvP szF M k c := by
  intro c
  induction c with
  | zero => intro _; rfl
  | succ c ih =>
    intro hc
    obtain ⟨s, e⟩ := h (k + c) (by omega) k hkm
    rw [pvP, pvP, ih (by omega), e, szF_pick]
/-- The rows up to a, and of the row a the numbers up to b, have lost their number in the column k. -/
def elP (T : Nat → Nat → Nat) (k a b : Nat) : Nat → Nat → Nat := fun i j => if (k < i ∧ k < j) ∧ (i < a ∨ (i = a ∧ j < b)) then fbin .sub .f32 (T i j) (fbin .mul .f32 (fbin .quo .f32 (T i k) (T k k)) (T k j)) else T i j
theorem elP_start (T : Nat → Nat → Nat) (k : Nat) : elP T k (k + 1) (k + 1) = T := by
  funext i j
  unfold elP
  rw [if_neg (by omega)]
theorem elP_next (T : Nat → Nat → Nat) {k a m i j : Nat} (hj : j < m) : elP T k a m i j = elP T k (a + 1) (k + 1) i j := by
  unfold elP
  by_cases h : (k < i ∧ k < j) ∧ (i < a ∨ (i = a ∧ j < m))
  · rw [if_pos h, if_pos (by omega)]
  · rw [if_neg h, if_neg (by omega)]
theorem elP_end (T : Nat → Nat → Nat) {k n b i j : Nat} (hi : i < n) : elP T k n b i j = elm T k i j := by
  unfold elP elm
  by_cases h : k < i ∧ k < j
  · rw [if_pos h, if_pos ⟨h, .inl hi⟩]
  · rw [if_neg h, if_neg (by omega)]
theorem elP_set (T : Nat → Nat → Nat) {k a b : Nat} (ha : k < a) (hb : k < b) : elP T k a (b + 1) = fun i j => if i = a ∧ j = b then fbin .sub .f32 (T a b) (fbin .mul .f32 (fbin .quo .f32 (T a k) (T k k)) (T k b)) else elP T k a b i j := by
  funext i j
  unfold elP
  by_cases e : i = a ∧ j = b
  · rw [if_pos e, if_pos (by omega), e.1, e.2]
  · rw [if_neg e]
    by_cases h : (k < i ∧ k < j) ∧ (i < a ∨ (i = a ∧ j < b))
    · rw [if_pos h, if_pos (by omega)]
    · rw [if_neg h, if_neg (by omega)]
theorem elP_old (T : Nat → Nat → Nat) {k a b i j : Nat} (h : ¬ ((k < i ∧ k < j) ∧ (i < a ∨ (i = a ∧ j < b)))) : elP T k a b i j = T i j := by unfold elP; rw [if_neg h]
theorem runP_dead {S : Nat → Nat} {n : Nat} {M : Nat → Nat → Nat} {k : Nat} (h : (runP S n M k).2 = false) : ∀ d, (runP S n M (k + d)).2 = false := by
  intro d
  induction d with
  | zero => exact h
  | succ d ih => show ((runP S n M (k + d)).2 && _) = false; rw [ih]; rfl
theorem runP_words {S : Nat → Nat} {n : Nat} {M : Nat → Nat → Nat} (hM : Wds M) : ∀ k, Wds (runP S n M k).1 := by
  intro k
  induction k with
  | zero => exact hM
  | succ k ih => exact (ih.swp _ _).elm _
/-- What is told of rows that are solved: whether it went well, and then a row of one's own. -/
def SolRet (B n : Nat) (F : Nat → Nat) (ok : Bool) (w : World) (e : Ending) (w' : World) : Prop :=
  (ok = false ∧ e = .returned (.tuple #[.slice none 0 0, .bool false]) ∧ Below B w w') ∨
  (ok = true ∧ ∃ g Y, e = .returned (.tuple #[.slice (some ⟨g, 0, none⟩) n n, .bool true]) ∧ w'.ownsRow B 32 1 (.slice (some ⟨g, 0, none⟩) n n) n (rowOf Y n) ∧ LikeP Y F n ∧ Below B w w')

/- Rows and right sides apart, as the model solves them: how they lie, and what stores and exchanges change. -/
set_option linter.all false

/-- n rows of n numbers, and their right sides (the column n) in a block of their own. -/
structure Sys (w : World) (B xb rb n : Nat) (R C : Nat → Nat) (V : Nat → Nat → Nat) : Prop where
  mat : Mat w B xb n n R C V
  num : ∀ i, i < n → w.cell? ⟨rb, i, none⟩ = some (.float .f32 (V i n))
  numF : ∀ i, i < n → w.frozen? ⟨rb, i, none⟩ = false
  ge : B ≤ rb
  ne : rb ≠ xb
  apart : ∀ i, i < n → R i ≠ rb
theorem Sys.drew {w : World} {B xb rb n : Nat} {R C : Nat → Nat} {V : Nat → Nat → Nat} (h : Sys w B xb rb n R C V) (q : Nat) : Sys (w.drewN q) B xb rb n R C V := ⟨h.mat.drew q, h.num, h.numF, h.ge, h.ne, h.apart⟩
theorem Sys.below {w w' : World} {B xb rb n : Nat} {R C : Nat → Nat} {V : Nat → Nat → Nat} (h : Sys w B xb rb n R C V) (hb : Below w.heap.size w w') : Sys w' B xb rb n R C V := by
  refine ⟨h.mat.below hb, fun i hi => (hb.cell (p := ⟨rb, i, none⟩) (World.block_lt_of_cell? w _ (h.num i hi))).trans (h.num i hi), fun i hi => ?_, h.ge, h.ne, h.apart⟩
  have e := hb.5 rb (World.block_lt_of_cell? w _ (h.num i hi))
  rw [← h.numF i hi]
  unfold World.frozen?
  simp only [e]
theorem Sys.set {w : World} {B xb rb n : Nat} {R C : Nat → Nat} {V : Nat → Nat → Nat} (h : Sys w B xb rb n R C V) {i j : Nat} (hi : i < n) (hj : j < n) (u : Nat) :
    Sys (w.setCell ⟨R i, j, none⟩ (.float .f32 u)) B xb rb n R C (fun a b => if a = i ∧ b = j then u else V a b) := by
  refine ⟨h.mat.set hi hj u, fun a ha => ?_, fun a ha => by rw [World.frozen?_setCell]; exact h.numF a ha, h.ge, h.ne, h.apart⟩
  rw [World.cell?_setCell_other _ _ _ _ (by intro e; injection e with e1; exact h.apart i hi e1), if_neg (by omega)]
  exact h.num a ha
theorem Sys.setR {w : World} {B xb rb n : Nat} {R C : Nat → Nat} {V : Nat → Nat → Nat} (h : Sys w B xb rb n R C V) {i : Nat} (hi : i < n) (u : Nat) :
    Sys (w.setCell ⟨rb, i, none⟩ (.float .f32 u)) B xb rb n R C (fun a b => if a = i ∧ b = n then u else V a b) := by
  have hm := h.mat
  refine ⟨⟨fun a ha => ?_, fun a ha => by rw [World.frozen?_setCell]; exact hm.rowF a ha, hm.room, fun a ha b hb => ?_, fun a ha b hb => by rw [World.frozen?_setCell]; exact hm.numF a ha b hb, hm.ge, hm.apart, hm.base, hm.one⟩, fun a ha => ?_, fun a ha => by rw [World.frozen?_setCell]; exact h.numF a ha, h.ge, h.ne, h.apart⟩
  · rw [World.cell?_setCell_other _ _ _ _ (by intro e; injection e with e1; exact h.ne e1)]
    exact hm.row a ha
  · rw [World.cell?_setCell_other _ _ _ _ (by intro e; injection e with e1; exact h.apart a ha e1.symm), if_neg (by omega)]
    exact hm.num a ha b hb
  · by_cases e : a = i
    · rw [if_pos ⟨e, rfl⟩, e]
      exact World.cell?_setCell_same _ _ _ (h.num i hi)
    · rw [if_neg (fun z => e z.1), World.cell?_setCell_other _ _ _ _ (by intro e'; injection e' with _ e2; exact e e2.symm)]
      exact h.num a ha
/-- The rows change places; their right sides stay. -/
theorem Sys.rows {w : World} {B xb rb n : Nat} {R C : Nat → Nat} {V : Nat → Nat → Nat} (h : Sys w B xb rb n R C V) {k p : Nat} (hk : k < n) (hp : p < n) :
    Sys ((w.setCell ⟨xb, p, none⟩ (.slice (some ⟨R k, 0, none⟩) n (C k))).setCell ⟨xb, k, none⟩ (.slice (some ⟨R p, 0, none⟩) n (C p))) B xb rb n
      (fun i => if i = p then R k else if i = k then R p else R i) (fun i => if i = p then C k else if i = k then C p else C i) (fun i j => if j < n then swp V k p i j else V i j) := by
  have hx : ∀ a v (u : World), (u.setCell ⟨xb, a, none⟩ v).cell? = (u.setCell ⟨xb, a, none⟩ v).cell? := fun _ _ _ => rfl
  refine ⟨(h.mat.swap hp hk).congr fun i hi j hj => ?_, fun a ha => ?_, fun a ha => by rw [World.frozen?_setCell, World.frozen?_setCell]; exact h.numF a ha, h.ge, h.ne, fun a ha => ?_⟩
  · rw [if_pos hj]
    unfold swp
    by_cases e1 : i = p
    · subst e1
      by_cases e2 : i = k
      · subst e2; rfl
      · rw [if_pos rfl, if_neg e2, if_pos rfl]
    · rw [if_neg e1]
      by_cases e2 : i = k
      · rw [if_pos e2, if_pos e2]
      · rw [if_neg e2, if_neg e2, if_neg e1]
  · rw [if_neg (Nat.lt_irrefl n), World.cell?_setCell_other _ _ _ _ (by intro e; injection e with e1; exact h.ne e1.symm), World.cell?_setCell_other _ _ _ _ (by intro e; injection e with e1; exact h.ne e1.symm)]
    exact h.num a ha
  · show (if a = p then R k else if a = k then R p else R a) ≠ rb
    split
    · exact h.apart k hk
    · split
      · exact h.apart p hp
      · exact h.apart a ha
/-- And then the right sides. -/
theorem swap_right {V : Nat → Nat → Nat} {n k p : Nat} : (fun a b => if a = k ∧ b = n then V p n else (fun a b => if a = p ∧ b = n then V k n else (fun i j => if j < n then swp V k p i j else V i j) a b) a b) = fun a b => if b ≤ n then swp V k p a b else V a b := by
  funext a b
  unfold swp
  by_cases hb : b < n
  · have : ¬ b = n := by omega
    simp [hb, this, Nat.le_of_lt hb]
  · by_cases hb2 : b = n
    · subst hb2
      by_cases e1 : a = k
      · subst e1; simp
      · by_cases e2 : a = p
        · subst e2; simp [e1]
        · simp [e1, e2]
    · have : ¬ b ≤ n := by omega
      simp [hb, hb2, this]

/- Rows that a call makes one by one and puts behind one another: how they lie, and what putting one behind them changes. -/
set_option linter.all false

theorem infoT : (Try.prog.info? 22).map (fun i => (i.zero, i.size, i.bytes)) = some (some (.slice none 0 0), 1, 24) := by kernel_rfl
/-- What is owned is of one type of element: two slices of different ones lie in different blocks. -/
theorem own_types {w : World} {B B' e e' z z' n n' : Nat} {v v' : Value} {xs xs' : List Value} (h : w.ownsRow B e z v n xs) (h' : w.ownsRow B' e' z' v' n' xs') (he : e ≠ e') : v.ownBlock = none ∨ v.ownBlock ≠ v'.ownBlock := by
  rcases h.2 with ⟨rfl, _⟩ | ⟨g, cap, cur, rfl, _, hg, _⟩
  · exact .inl rfl
  · rcases h'.2 with ⟨rfl, _⟩ | ⟨g', cap', cur', rfl, _, hg', _⟩
    · exact .inr (by simp [Value.ownBlock])
    · refine .inr fun e1 => he ?_
      simp only [Value.ownBlock, Option.some.injEq] at e1
      rw [e1, hg'] at hg
      injection hg with h1
      injection h1 with _ h2
      exact h2.symm
theorem own_cap {w : World} {B e g n cap : Nat} {xs : List Value} (h : w.ownsRow B e 1 (.slice (some ⟨g, 0, none⟩) n cap) n xs) : n ≤ cap ∧ cap ≤ maxLen := by
  rcases h.2 with ⟨h2, _⟩ | ⟨b, c, cur, h1, _, _, h4, h5, _⟩
  · cases h2
  · simp only [Value.slice.injEq, Option.some.injEq, Addr.mk.injEq] at h1
    rw [h1.2.2]; exact ⟨h4, h5⟩
theorem wpL_pushS {B : Nat} {i0 : TypeInfo} (hi : Try.prog.info? 22 = some i0) (hz0 : i0.zero = some (.slice none 0 0)) (hz1 : i0.size = 1) (hz2 : i0.bytes = 24)
    {w0 : World} {u : Value} {ad : Nat} {ops : Array Oper} {rest : List Oper} {o : Oper} {a : Act} {Q : Exit → Act → World → Prop} (hgd : o.guard = none) {s x : Operand}
    (ho : o.op = .call { callee := .builtin .append, args := #[s, x], argTypes := #[64, 64] }) {v : Value} {n : Nat} {xs : List Value} (hs : a.eval s = v) (hx : a.eval x = .slice (some ⟨ad, 0, none⟩) 1 1)
    (had : ad = w0.heap.size) (hu : u.oneCell' = true) (hown : w0.ownsRow B 22 1 v n xs) (hn : n ≤ 1048576) (hB : B ≤ w0.heap.size)
    (h : ∀ v' w', w'.ownsRow B 22 1 v' (n + 1) (xs ++ [u]) → (w0.alloc (.cells #[u] 22)).grownBy w' v.ownBlock → (v'.ownBlock = v.ownBlock ∨ v'.ownBlock = some (w0.heap.size + 1)) → wpList Try.prog ops Q rest (a.put o.dst v') w') :
    wpList Try.prog ops Q (o :: rest) a (w0.alloc (.cells #[u] 22)) := by
  subst had
  refine wpList_append_own_at _ hgd s x 64 ho B 22 i0 (.slice none 0 0) 1 24 Try.underlying64 hi hz0 hz1 hz2 rfl (by decide) v n xs hs (hown.alloc _) ⟨w0.heap.size, 0, none⟩ 1 1 [u] hx rfl (cell_one_new _ _ _) ?_ (by unfold maxLen; omega) (by omega) (by simp; omega) ?_
  · intro c hc
    simp at hc
    subst hc
    exact hu
  · intro v' w' h1 h2 _ h3
    exact h v' w' h1 h2 (by simpa using h3)
/-- The same as wpL_push; it tells besides where the list lies. -/
theorem wpL_pushT {B : Nat} {i0 : TypeInfo} (hi : Try.prog.info? 32 = some i0) (hz0 : i0.zero = some (.float .f32 0)) (hz1 : i0.size = 1) (hz2 : i0.bytes = 4)
    {w0 : World} {u ad : Nat} {ops : Array Oper} {rest : List Oper} {o : Oper} {a : Act} {Q : Exit → Act → World → Prop} (hgd : o.guard = none) {s x : Operand}
    (ho : o.op = .call { callee := .builtin .append, args := #[s, x], argTypes := #[22, 22] }) {v : Value} {n : Nat} {X : Nat → Nat} (hs : a.eval s = v) (hx : a.eval x = .slice (some ⟨ad, 0, none⟩) 1 1)
    (had : ad = w0.heap.size) (hown : w0.ownsRow B 32 1 v n (rowOf X n)) (hn : n ≤ 1048576) (hB : B ≤ w0.heap.size)
    (h : ∀ v' w', w'.ownsRow B 32 1 v' (n + 1) (rowOf (fun j => if j = n then u else X j) (n + 1)) → (w0.alloc (.cells #[.float .f32 u] 32)).grownBy w' v.ownBlock → (v'.ownBlock = v.ownBlock ∨ v'.ownBlock = some (w0.heap.size + 1)) → wpList Try.prog ops Q rest (a.put o.dst v') w') :
    wpList Try.prog ops Q (o :: rest) a (w0.alloc (.cells #[.float .f32 u] 32)) := by
  subst had
  refine wpList_append_own_at _ hgd s x 22 ho B 32 i0 (.float .f32 0) 1 4 Try.underlying22 hi hz0 hz1 hz2 rfl (by decide) v n (rowOf X n) hs (hown.alloc _) ⟨w0.heap.size, 0, none⟩ 1 1 [.float .f32 u] hx rfl (cell_one_new _ _ _) ?_ (by unfold maxLen; omega) (by omega) (by simp; omega) ?_
  · intro c hc
    simp at hc
    subst hc
    rfl
  · intro v' w' h1 h2 _ h3
    rw [row_push] at h1
    exact h v' w' h1 h2 (by simpa using h3)
/-- k rows of m numbers, each in a block of its own, that a call has put behind one another. -/
structure Bld (w : World) (B m k : Nat) (vo : Value) (R C : Nat → Nat) (V : Nat → Nat → Nat) : Prop where
  outer : w.ownsRow B 22 1 vo k ((List.range k).map fun i => Value.slice (some ⟨R i, 0, none⟩) m (C i))
  inner : ∀ i, i < k → w.ownsRow B 32 1 (.slice (some ⟨R i, 0, none⟩) m (C i)) m (rowOf (V i) m)
  one : ∀ i i', i < k → i' < k → R i = R i' → i = i'
section
variable {w : World} {B m k : Nat} {vo : Value} {R C : Nat → Nat} {V : Nat → Nat → Nat}
theorem Bld.below {w' : World} (h : Bld w B m k vo R C V) (hb : Below w.heap.size w w') : Bld w' B m k vo R C V := ⟨own_below h.outer hb, fun i hi => own_below (h.inner i hi) hb, h.one⟩
theorem Bld.drew (h : Bld w B m k vo R C V) (q : Nat) : Bld (w.drewN q) B m k vo R C V := ⟨h.outer, h.inner, h.one⟩
theorem Bld.alloc (h : Bld w B m k vo R C V) (o : Obj) : Bld (w.alloc o) B m k vo R C V := ⟨h.outer.alloc o, fun i hi => (h.inner i hi).alloc o, h.one⟩
theorem Bld.lt (h : Bld w B m k vo R C V) {i : Nat} (hi : i < k) : R i < w.heap.size := own_lt (h.inner i hi)
theorem Bld.mono {B' : Nat} (h : Bld w B m k vo R C V) (hB : B' ≤ B) : Bld w B' m k vo R C V := ⟨own_mono0 h.outer hB, fun i hi => own_mono0 (h.inner i hi) hB, h.one⟩
theorem types_ne : 32 ≠ 22 := by decide
theorem oneCell_slice (a : Option Addr) (n c : Nat) : (Value.slice a n c).oneCell' = true := rfl
/-- A new row, put behind. -/
theorem Bld.push (h : Bld w B m k vo R C V) {g c : Nat} {X : Nat → Nat} (hg : w.ownsRow B 32 1 (.slice (some ⟨g, 0, none⟩) m c) m (rowOf X m)) (hne : ∀ i, i < k → R i ≠ g) {o : Obj} {v' : Value} {w' : World}
    (hv : w'.ownsRow B 22 1 v' (k + 1) ((List.range k).map (fun i => Value.slice (some ⟨R i, 0, none⟩) m (C i)) ++ [.slice (some ⟨g, 0, none⟩) m c])) (hgr : (w.alloc o).grownBy w' vo.ownBlock) :
    Bld w' B m (k + 1) v' (fun i => if i = k then g else R i) (fun i => if i = k then c else C i) (fun i => if i = k then X else V i) := by
  have hk : ∀ {b c n : Nat} {Z : List Value}, w.ownsRow B 32 1 (.slice (some ⟨b, 0, none⟩) n c) n Z → w'.ownsRow B 32 1 (.slice (some ⟨b, 0, none⟩) n c) n Z := fun hz => (hz.alloc o).kept hgr (own_types hz h.outer types_ne)
  refine ⟨?_, fun i hi => ?_, fun i i' hi hi' e => ?_⟩
  · rw [List.range_succ, List.map_append, List.map_singleton, if_pos rfl, if_pos rfl]
    rw [List.map_congr_left (g := fun i => Value.slice (some ⟨R i, 0, none⟩) m (C i)) (fun i hi => by rw [if_neg (Nat.ne_of_lt (List.mem_range.1 hi)), if_neg (Nat.ne_of_lt (List.mem_range.1 hi))])]
    exact hv
  · by_cases e : i = k
    · simp only [if_pos e]; exact hk hg
    · simp only [if_neg e]; exact hk (h.inner i (by omega))
  · by_cases e1 : i = k <;> by_cases e2 : i' = k
    · rw [e1, e2]
    · rw [if_pos e1, if_neg e2] at e; exact absurd e.symm (hne i' (by omega))
    · rw [if_neg e1, if_pos e2] at e; exact absurd e (hne i (by omega))
    · rw [if_neg e1, if_neg e2] at e; exact h.one i i' (by omega) (by omega) e
theorem Bld.keep {w' : World} {row : Option Nat} (h : Bld w B m k vo R C V) (hg : w.grownBy w' row) (hr : ∀ i, i < k → some (R i) ≠ row) (ho : vo.ownBlock = none ∨ vo.ownBlock ≠ row) : Bld w' B m k vo R C V :=
  ⟨h.outer.kept hg ho, fun i hi => (h.inner i hi).kept hg (.inr (by simpa [Value.ownBlock] using hr i hi)), h.one⟩
theorem Bld.only {w' : World} {xb cap rb : Nat} (h : Bld w B m k (.slice (some ⟨xb, 0, none⟩) k cap) R C V) (hx : xb ≠ rb) (hr : ∀ i, i < k → R i ≠ rb) (o : Only rb w w') : Bld w' B m k (.slice (some ⟨xb, 0, none⟩) k cap) R C V :=
  ⟨own_other h.outer hx o, fun i hi => own_other (h.inner i hi) (hr i hi) o, h.one⟩
theorem Bld.nil (w : World) (B m : Nat) (R C : Nat → Nat) (V : Nat → Nat → Nat) : Bld w B m 0 (.slice none 0 0) R C V := ⟨World.ownsRow_nil _ _ _ _, fun i hi => absurd hi (Nat.not_lt_zero _), fun i _ hi => absurd hi (Nat.not_lt_zero _)⟩
theorem Bld.empty (w : World) (m : Nat) (R C : Nat → Nat) (V : Nat → Nat → Nat) : Bld (w.alloc (.cells #[] 22)) w.heap.size m 0 (.slice (some ⟨w.heap.size, 0, none⟩) 0 0) R C V :=
  ⟨World.ownsRow_made w #[] 0 (Nat.le_refl _) (Nat.zero_le _) rfl, fun i hi => absurd hi (Nat.not_lt_zero _), fun i _ hi => absurd hi (Nat.not_lt_zero _)⟩
theorem outer_some {w : World} {B n : Nat} {v : Value} {xs : List Value} (h : w.ownsRow B 22 1 v n xs) (hn : 1 ≤ n) : ∃ g cap, v = .slice (some ⟨g, 0, none⟩) n cap := by
  rcases h.2 with ⟨_, h2⟩ | ⟨g, cap, cur, h1, _⟩
  · omega
  · exact ⟨g, cap, h1⟩
theorem Bld.mat {xb cap : Nat} (h : Bld w B m k (.slice (some ⟨xb, 0, none⟩) k cap) R C V) : Mat w B xb k m R C V := by
  refine ⟨fun i hi => ?_, fun i _ => h.outer.frozenAt i, fun i hi => (own_cap (h.inner i hi)).1, fun i hi j hj => own_cell (h.inner i hi) hj, fun i hi j _ => (h.inner i hi).frozenAt j, fun i hi => own_ge (h.inner i hi), fun i hi e => ?_, own_ge h.outer, h.one⟩
  · rw [h.outer.cellAt i (by omega)]
    simp [hi]
  · rcases own_types (h.inner i hi) h.outer types_ne with h1 | h1
    · simp [Value.ownBlock] at h1
    · exact h1 (by simp [Value.ownBlock, e])
/-- Rows and right sides apart. -/
theorem Bld.sys {xb cap rb cr : Nat} (h : Bld w B m m (.slice (some ⟨xb, 0, none⟩) m cap) R C V) {Y : Nat → Nat} (hr : w.ownsRow B 32 1 (.slice (some ⟨rb, 0, none⟩) m cr) m (rowOf Y m)) (hne : ∀ i, i < m → R i ≠ rb) :
    Sys w B xb rb m R C (fun i j => if j < m then V i j else Y i) := by
  refine ⟨h.mat.congr fun i _ j hj => by rw [if_pos hj], fun i hi => ?_, fun i _ => hr.frozenAt i, own_ge hr, fun e => ?_, hne⟩
  · rw [if_neg (Nat.lt_irrefl _)]; exact own_cell hr hi
  · rcases own_types hr h.outer types_ne with h1 | h1
    · simp [Value.ownBlock] at h1
    · exact h1 (by simp [Value.ownBlock, e])
end

/- The size of a number, as the model takes it. -/
set_option linter.all false

theorem ord_zero (s : Bool) (r : Nat) (h : r ≤ 2139095040) : FloatKind.f32.format.order (Ieee.single.word s r) 0 = some (if r = 0 then .eq else if s = true then .lt else .gt) := by
  have hz : (0 : Nat) = Ieee.single.word false 0 := rfl
  by_cases hr : r < 2139095040
  · have e := ord_words s false r 0 hr (by omega)
    rw [← hz] at e
    rw [e]
    congr 1
    by_cases h0 : r = 0
    · subst h0
      cases s <;> rfl
    · rw [if_neg h0]
      cases s
      · rw [Int.compare_eq_gt.2 (by unfold sgR; simp; omega)]; rfl
      · rw [Int.compare_eq_lt.2 (by unfold sgR; simp; omega)]; rfl
  · obtain rfl : r = 2139095040 := by omega
    cases s <;> decide +kernel
set_option maxHeartbeats 800000 in
theorem l02Size_ex (x : Nat) (hx : x < 4294967296) : ∃ s, ∀ w : World, Calls Try.prog 92 #[.float .f32 x] w fun e w' => e = .returned (.float .f32 (pick .f32 (szF x) s)) ∧ w' = w := by
  cases hn : isNaN .f32 x
  · obtain ⟨s, r, h1, rfl⟩ := word_of x hx
    have h2 := nan_word h1 hn
    have hs := szF_word h1 hn
    have ho := ord_zero s r h2
    have hz := sub_zero s r h2
    have hpk : ∀ t, pick .f32 (szF (Ieee.single.word s r)) t = Ieee.single.word false r := fun t => by
      rw [hs, pick_num]
      have hn2 : isNaN .f32 (Ieee.single.word false r) = false := by
        by_cases hr : r < 2139095040
        · obtain ⟨m, e, h3, _⟩ := rung_read false r hr
          simp [isNaN, FloatKind.decode, h3, Ieee.Datum.isNaN]
        · obtain rfl : r = 2139095040 := by omega
          simp [isNaN, FloatKind.decode, read_inf, Ieee.Datum.isNaN]
      exact hn2
    have HP := Lib.hid hpk
    by_cases h0 : r = 0
    · subst h0
      rw [if_pos rfl] at ho hz
      obtain ⟨x, hxv⟩ : ∃ x, x = Ieee.single.word s 0 := ⟨_, rfl⟩
      rw [← hxv] at ho hz HP hx ⊢
      have q1 := fun t => run_numop (op := .sub) rfl t 0 x 0 hz (by decide +kernel)
      clear hpk hs hn hxv
      refine ⟨0, fun w => ?_⟩
      go_enter Try.func92, Try.ntmps92
      go_wp2
      go_ret
      exact ⟨by rw [HP.out]; rfl, rfl⟩
    · rw [if_neg h0] at ho hz
      cases s
      · rw [if_neg (by simp)] at ho
        obtain ⟨x, hxv⟩ : ∃ x, x = Ieee.single.word false r := ⟨_, rfl⟩
        rw [← hxv] at ho hz HP hx ⊢
        clear hpk hs hn hxv hz
        refine ⟨0, fun w => ?_⟩
        go_enter Try.func92, Try.ntmps92
        go_wp2
        go_ret
        exact ⟨by rw [HP.out]; rfl, rfl⟩
      · rw [if_pos rfl] at ho
        have hnn := Lib.hid (hpk 0)
        obtain ⟨y, hy⟩ : ∃ y, y = Ieee.single.word false r := ⟨_, rfl⟩
        have hz : fbin .sub .f32 0 (Ieee.single.word true r) = y := by rw [hz, hy]; rfl
        have hyn : isNaN .f32 y = false := by
          rw [hy]
          by_cases hr : r < 2139095040
          · obtain ⟨m, e, h3, _⟩ := rung_read false r hr
            simp [isNaN, FloatKind.decode, h3, Ieee.Datum.isNaN]
          · obtain rfl : r = 2139095040 := by omega
            simp [isNaN, FloatKind.decode, read_inf, Ieee.Datum.isNaN]
        obtain ⟨x, hxv⟩ : ∃ x, x = Ieee.single.word true r := ⟨_, rfl⟩
        rw [← hxv] at ho hz HP hx ⊢
        rw [← hy] at HP
        have q1 := fun t => run_numop (op := .sub) rfl t 0 x y hz hyn
        clear hpk hs hn hxv hy hnn
        refine ⟨0, fun w => ?_⟩
        go_enter Try.func92, Try.ntmps92
        go_wp2
        go_ret
        exact ⟨by rw [HP.out]; rfl, rfl⟩
  · have ho : FloatKind.f32.format.order x 0 = none := order_left hn
    obtain ⟨t, ht⟩ := nan_word_f32 hn hx
    have HE := Lib.hid (show x = pick .f32 (szF x) t by rw [szF_nan hn, pick_nan (isNaN_qnan _)]; exact ht)
    clear hn ht
    refine ⟨t, fun w => ?_⟩
    go_enter Try.func92, Try.ntmps92
    go_wp2
    go_ret
    exact ⟨by rw [← HE.out]; rfl, rfl⟩

end Go.Proofs.Ytogmcinaoemnpaa
