
/- Floats up to the bits of a not-a-number: 'canon' is the word with each not-a-number turned into one; what the operations of a walk give of floats, told of canonical words; each operation draws at most once. -/
import Derived.WalkKit
import Derived.WalkLawsBesides
import Derived.Deep.Draws
import Derived.Lib.Hide
namespace Go.Proofs.Ytogmcinaoemnpab
open Go Go.RowKit

def qnan : FloatKind → Nat
  | .f32 => 2143289344
  | .f64 => 9221120237041090560
def isNaN (k : FloatKind) (b : Nat) : Bool := (k.decode b).isNaN
def canon (k : FloatKind) (b : Nat) : Nat := if isNaN k b = true then qnan k else b
def fbin (op : BinOp) (k : FloatKind) (x y : Nat) : Nat := (floatBits op k x y).getD (qnan k)
def fcmp (op : BinOp) (k : FloatKind) (x y : Nat) : Bool :=
  match op with
  | .eql => k.format.order x y == some .eq
  | .neq => k.format.order x y != some .eq
  | .lss => k.format.order x y == some .lt
  | .leq => k.format.order x y == some .lt || k.format.order x y == some .eq
  | .gtr => k.format.order x y == some .gt
  | _ => k.format.order x y == some .gt || k.format.order x y == some .eq
def fconv (src : FloatKind) (b : Nat) (dst : FloatKind) : Nat := if isNaN src b = true then qnan dst else dst.encode (src.decode b)
/-- The conversion is not asked of the tape for a number that is too great. -/
def convOk (src : FloatKind) (b : Nat) (dst : FloatKind) : Prop := isNaN src b = true ∨ (src.decode b).isInfinity = true ∨ (dst.decode (dst.encode (src.decode b))).isInfinity = false
def fneg (k : FloatKind) (b : Nat) : Nat := if isNaN k b = true then qnan k else Op.negFloat k b
/-- The not-a-number's word that a draw gives. -/
def nanw (k : FloatKind) (t : Nat) : Nat := Question.cut (.nanBits k 0 0) t
theorem nanw_bits (k : FloatKind) (x y t : Nat) : Question.cut (.nanBits k x y) t = nanw k t := by cases k <;> rfl
theorem nanw_conv (k : FloatKind) (x t : Nat) : Question.cut (.nanConv k x) t = nanw k t := by cases k <;> rfl
theorem nanw_f32_eq (t : Nat) : nanw .f32 t = (t % 2) * 2147483648 + 2139095041 + (t / 2) % 8388607 := by
  simp [nanw, Question.cut, Nat.add_assoc]
theorem nanw_f64_eq (t : Nat) : nanw .f64 t = (t % 2) * 9223372036854775808 + 9218868437227405313 + (t / 2) % 4503599627370495 := by
  simp [nanw, Question.cut, Nat.add_assoc]
/-- X, or, where X is a not-a-number, one that a draw gives. -/
def pick (k : FloatKind) (X s : Nat) : Nat := if isNaN k X = true then nanw k s else X
theorem isNaN_qnan (k : FloatKind) : isNaN k (qnan k) = true := by cases k <;> decide +kernel
theorem canon_qnan (k : FloatKind) : canon k (qnan k) = qnan k := by simp [canon, isNaN_qnan]
theorem canon_nan {k : FloatKind} {b : Nat} (h : isNaN k b = true) : canon k b = qnan k := by simp [canon, h]
theorem canon_num {k : FloatKind} {b : Nat} (h : isNaN k b = false) : canon k b = b := by simp [canon, h]
theorem isNaN_canon (k : FloatKind) (b : Nat) : isNaN k (canon k b) = isNaN k b := by
  cases h : isNaN k b
  · rw [canon_num h, h]
  · rw [canon_nan h, isNaN_qnan]
theorem canon_canon (k : FloatKind) (b : Nat) : canon k (canon k b) = canon k b := by
  cases h : isNaN k b
  · rw [canon_num h, canon_num h]
  · rw [canon_nan h, canon_qnan]
theorem read_word (f : Ieee.Format) (neg : Bool) {rung : Nat} (h : rung ≤ f.infRung) : (f.read (f.word neg rung)).isNaN = false := by
  have hl : rung < f.signWeight := Nat.lt_of_le_of_lt h f.infRung_lt
  have hm : f.word neg rung % f.signWeight = rung := by
    unfold Ieee.Format.word
    cases neg
    · simp [Nat.mod_eq_of_lt hl]
    · simp [Nat.add_mod_left, Nat.mod_eq_of_lt hl]
  unfold Ieee.Format.read
  rw [hm]
  dsimp only
  split
  · rfl
  · split
    · rfl
    · split
      · rfl
      · omega
theorem isNaN_encode (k : FloatKind) (d : Ieee.Datum) (h : d.isNaN = false) : isNaN k (k.encode d) = false := by
  unfold isNaN FloatKind.decode FloatKind.encode
  cases d with
  | nan => simp [Ieee.Datum.isNaN] at h
  | infinity s => exact read_word _ _ (Nat.le_refl _)
  | number s m e =>
    unfold Ieee.Format.write Ieee.Format.nearest
    dsimp only
    split
    · exact read_word _ _ (Nat.zero_le _)
    · exact read_word _ _ (Nat.min_le_right _ _)
theorem sum_num {a b d : Ieee.Datum} (h : a.sum b = some d) : d.isNaN = false := by
  cases a <;> cases b <;> simp only [Ieee.Datum.sum] at h
  all_goals first
    | (cases h; done)
    | (cases h; rfl)
    | (split at h <;> cases h; rfl)
theorem product_num {a b d : Ieee.Datum} (h : a.product b = some d) : d.isNaN = false := by
  cases a <;> cases b <;> simp only [Ieee.Datum.product] at h
  all_goals first
    | (cases h; done)
    | (split at h <;> cases h; rfl)
    | (cases h; rfl)
theorem quotient_num {n : Nat} {a b d : Ieee.Datum} (h : a.quotient n b = some d) : d.isNaN = false := by
  cases a <;> cases b <;> simp only [Ieee.Datum.quotient] at h
  all_goals first
    | (cases h; done)
    | (split at h <;> first | (split at h <;> cases h; rfl) | (cases h; rfl))
    | (cases h; rfl)
theorem root_num {n : Nat} {a d : Ieee.Datum} (h : a.root n = some d) : d.isNaN = false := by
  cases a <;> simp only [Ieee.Datum.root] at h
  all_goals first
    | (cases h; done)
    | (split at h <;> first | (cases h; rfl) | (split at h <;> cases h; rfl) | (cases h; done))
theorem map_num {k : FloatKind} {o : Option Ieee.Datum} {r : Nat} (ho : ∀ d, o = some d → d.isNaN = false) (h : o.map k.format.write = some r) : isNaN k r = false := by
  cases o with
  | none => cases h
  | some d => cases h; exact isNaN_encode k d (ho d rfl)
theorem floatBits_num {op : BinOp} {k : FloatKind} {x y r : Nat} (h : floatBits op k x y = some r) : isNaN k r = false := by
  unfold floatBits at h
  split at h
  · exact map_num (fun _ e => sum_num e) h
  · exact map_num (fun _ e => sum_num e) h
  · exact map_num (fun _ e => product_num e) h
  · exact map_num (fun _ e => quotient_num e) h
  · cases h
theorem nan_of {k : FloatKind} {b : Nat} (h : isNaN k b = true) : ∃ s t, k.format.read b = .nan s t := by
  unfold isNaN FloatKind.decode at h
  cases hr : k.format.read b <;> simp [hr, Ieee.Datum.isNaN] at h
  exact ⟨_, _, rfl⟩
theorem floatBits_left {op : BinOp} {k : FloatKind} {x y : Nat} (h : isNaN k x = true) : floatBits op k x y = none := by
  obtain ⟨s, t, e⟩ := nan_of h
  unfold floatBits
  split <;> simp [Ieee.Format.add, Ieee.Format.sub, Ieee.Format.mul, Ieee.Format.div, e, Ieee.Datum.sum, Ieee.Datum.product, Ieee.Datum.quotient]
theorem floatBits_right {op : BinOp} {k : FloatKind} {x y : Nat} (h : isNaN k y = true) : floatBits op k x y = none := by
  obtain ⟨s, t, e⟩ := nan_of h
  unfold floatBits
  split <;> simp only [Ieee.Format.add, Ieee.Format.sub, Ieee.Format.mul, Ieee.Format.div, e, Ieee.Datum.opposite] <;> cases k.format.read x <;> rfl
theorem floatBits_canon (op : BinOp) (k : FloatKind) (x y : Nat) : floatBits op k (canon k x) (canon k y) = floatBits op k x y := by
  cases hx : isNaN k x
  · cases hy : isNaN k y
    · rw [canon_num hx, canon_num hy]
    · rw [floatBits_right hy, floatBits_right (by rw [isNaN_canon, hy])]
  · rw [floatBits_left hx, floatBits_left (by rw [isNaN_canon, hx])]
theorem order_left {k : FloatKind} {x y : Nat} (h : isNaN k x = true) : k.format.order x y = none := by
  obtain ⟨s, t, e⟩ := nan_of h
  simp [Ieee.Format.order, e, Ieee.Datum.order]
theorem order_right {k : FloatKind} {x y : Nat} (h : isNaN k y = true) : k.format.order x y = none := by
  obtain ⟨s, t, e⟩ := nan_of h
  unfold Ieee.Format.order
  rw [e]
  cases k.format.read x <;> rfl
theorem order_canon (k : FloatKind) (x y : Nat) : k.format.order (canon k x) (canon k y) = k.format.order x y := by
  cases hx : isNaN k x
  · cases hy : isNaN k y
    · rw [canon_num hx, canon_num hy]
    · rw [order_right hy, order_right (by rw [isNaN_canon, hy])]
  · rw [order_left hx, order_left (by rw [isNaN_canon, hx])]

theorem nan_at_f32 (a c : Nat) (h2 : c < 8388607) : isNaN .f32 (a * 2147483648 + 2139095041 + c) = true := by
  have hm : (a * 2147483648 + 2139095041 + c) % 2147483648 = 2139095041 + c := by omega
  unfold isNaN FloatKind.decode FloatKind.format Ieee.Format.read
  simp only [Ieee.Format.signWeight, Ieee.Format.binade, Ieee.Format.infRung, Ieee.single, Nat.reduceAdd, Nat.reducePow, Nat.reduceSub, Nat.reduceMul, hm]
  rw [if_neg (by omega), if_neg (by omega), if_neg (by omega)]
  rfl
theorem nan_at_f64 (a c : Nat) (h2 : c < 4503599627370495) : isNaN .f64 (a * 9223372036854775808 + 9218868437227405313 + c) = true := by
  have hm : (a * 9223372036854775808 + 9218868437227405313 + c) % 9223372036854775808 = 9218868437227405313 + c := by omega
  unfold isNaN FloatKind.decode FloatKind.format Ieee.Format.read
  simp only [Ieee.Format.signWeight, Ieee.Format.binade, Ieee.Format.infRung, Ieee.double, Nat.reduceAdd, Nat.reducePow, Nat.reduceSub, Nat.reduceMul, hm]
  rw [if_neg (by omega), if_neg (by omega), if_neg (by omega)]
  rfl
theorem nanw_f32 (t : Nat) : isNaN .f32 (nanw .f32 t) = true ∧ nanw .f32 t < 2 ^ 32 := by
  have h1 : t % 2 < 2 := Nat.mod_lt _ (by omega)
  have h2 : (t / 2) % 8388607 < 8388607 := Nat.mod_lt _ (by omega)
  rw [nanw_f32_eq]
  exact ⟨nan_at_f32 _ _ h2, by simp only [Nat.reducePow]; omega⟩
theorem nanw_f64 (t : Nat) : isNaN .f64 (nanw .f64 t) = true ∧ nanw .f64 t < 2 ^ 64 := by
  have h1 : t % 2 < 2 := Nat.mod_lt _ (by omega)
  have h2 : (t / 2) % 4503599627370495 < 4503599627370495 := Nat.mod_lt _ (by omega)
  rw [nanw_f64_eq]
  exact ⟨nan_at_f64 _ _ h2, by simp only [Nat.reducePow]; omega⟩
theorem isNaN_nanw (k : FloatKind) (t : Nat) : isNaN k (nanw k t) = true := by
  cases k
  · exact (nanw_f32 t).1
  · exact (nanw_f64 t).1
theorem nanw_wf (k : FloatKind) (t : Nat) : (Lit.float k (nanw k t)).wf = true := by
  cases k
  · exact wf_of_lt _ _ (nanw_f32 t).2
  · exact wf_of_lt _ _ (nanw_f64 t).2
theorem isNaN_pick (k : FloatKind) (X s : Nat) : isNaN k (pick k X s) = isNaN k X := by
  unfold pick
  split
  · rename_i h; rw [h, isNaN_nanw]
  · rfl
theorem pick_num {k : FloatKind} {X : Nat} (h : isNaN k X = false) (s : Nat) : pick k X s = X := by simp [pick, h]
theorem pick_nan {k : FloatKind} {X : Nat} (h : isNaN k X = true) (s : Nat) : pick k X s = nanw k s := by simp [pick, h]
theorem canon_pick (k : FloatKind) (X s : Nat) : canon k (pick k X s) = canon k X := by
  cases h : isNaN k X
  · rw [pick_num h]
  · rw [canon_nan h, canon_nan (by rw [isNaN_pick, h])]
theorem pick_wf {k : FloatKind} {X : Nat} (h : (Lit.float k X).wf = true) (s : Nat) : (Lit.float k (pick k X s)).wf = true := by
  unfold pick; split
  · exact nanw_wf k s
  · exact h
theorem pick_pick (k : FloatKind) (X s t : Nat) : pick k (pick k X s) t = pick k X t := by
  cases h : isNaN k X
  · rw [pick_num h, pick_num h]
  · have h' : isNaN k (pick k X s) = true := by rw [isNaN_pick, h]
    rw [pick_nan h', pick_nan h]
theorem pick_canon (k : FloatKind) (X t : Nat) : pick k (canon k X) t = pick k X t := by
  cases h : isNaN k X
  · rw [canon_num h]
  · rw [pick_nan h, pick_nan (by rw [isNaN_canon, h])]
theorem floatBits_congr {op : BinOp} {k : FloatKind} {x x' y y' : Nat} (hx : canon k x = canon k x') (hy : canon k y = canon k y') : floatBits op k x y = floatBits op k x' y' := by
  rw [← floatBits_canon op k x y, hx, hy, floatBits_canon]
theorem fbin_congr {op : BinOp} {k : FloatKind} {x x' y y' : Nat} (hx : canon k x = canon k x') (hy : canon k y = canon k y') : fbin op k x y = fbin op k x' y' := by
  unfold fbin; rw [floatBits_congr hx hy]
theorem fbin_pick_l (op : BinOp) (k : FloatKind) (x s y : Nat) : fbin op k (pick k x s) y = fbin op k x y := fbin_congr (canon_pick ..) rfl
theorem fbin_pick_r (op : BinOp) (k : FloatKind) (x y s : Nat) : fbin op k x (pick k y s) = fbin op k x y := fbin_congr rfl (canon_pick ..)
theorem order_congr {k : FloatKind} {x x' y y' : Nat} (hx : canon k x = canon k x') (hy : canon k y = canon k y') : k.format.order x y = k.format.order x' y' := by
  rw [← order_canon k x y, hx, hy, order_canon]
theorem order_pick_l (k : FloatKind) (x s y : Nat) : k.format.order (pick k x s) y = k.format.order x y := order_congr (canon_pick ..) rfl
theorem order_pick_r (k : FloatKind) (x y s : Nat) : k.format.order x (pick k y s) = k.format.order x y := order_congr rfl (canon_pick ..)
theorem fconv_congr {s : FloatKind} {b b' : Nat} {d : FloatKind} (h : canon s b = canon s b') : fconv s b d = fconv s b' d := by
  have h' : isNaN s b = isNaN s b' := by rw [← isNaN_canon s b, h, isNaN_canon]
  cases hn : isNaN s b
  · rw [canon_num hn, canon_num (by rw [← h', hn])] at h; rw [h]
  · simp [fconv, hn, ← h']
theorem fconv_pick (s : FloatKind) (b t : Nat) (d : FloatKind) : fconv s (pick s b t) d = fconv s b d := fconv_congr (canon_pick ..)
theorem isNaN_fconv (s : FloatKind) (b : Nat) (d : FloatKind) : isNaN d (fconv s b d) = isNaN s b := by
  unfold fconv
  cases h : isNaN s b
  · simp; exact isNaN_encode d _ h
  · simp [isNaN_qnan]
theorem fbin_wf (op : BinOp) (k : FloatKind) (x y : Nat) : (Lit.float k (fbin op k x y)).wf = true := by
  unfold fbin
  cases h : floatBits op k x y with
  | none => cases k <;> rfl
  | some r => exact floatBits_wf h
theorem fconv_wf (s : FloatKind) (b : Nat) (d : FloatKind) : (Lit.float d (fconv s b d)).wf = true := by
  unfold fconv; split
  · cases d <;> rfl
  · exact encode_wf ..
/-- Each not-a-number's word is one that a draw gives. -/
theorem nan_word_f32 {b : Nat} (h : isNaN .f32 b = true) (hb : b < 4294967296) : ∃ t, b = nanw .f32 t := by
  obtain ⟨s, t, e⟩ := nan_of h
  have hsw : Ieee.single.signWeight = 2147483648 := rfl
  have hbin : Ieee.single.binade = 8388608 := rfl
  have hinf : Ieee.single.infRung = 2139095040 := rfl
  change Ieee.single.read b = _ at e
  unfold Ieee.Format.read at e
  rw [hsw, hbin, hinf] at e
  dsimp only at e
  split at e
  · cases e
  · split at e
    · cases e
    · split at e
      · cases e
      · refine ⟨2 * (b % 2147483648 - 2139095041) + b / 2147483648, ?_⟩
        have hq : b / 2147483648 < 2 := by omega
        have hr : b % 2147483648 < 2147483648 := Nat.mod_lt _ (by omega)
        have hb' : b = 2147483648 * (b / 2147483648) + b % 2147483648 := by omega
        rw [nanw_f32_eq]
        generalize b / 2147483648 = q at *
        generalize b % 2147483648 = r at *
        have h1 : (2 * (r - 2139095041) + q) % 2 = q := by omega
        have h2 : (2 * (r - 2139095041) + q) / 2 = r - 2139095041 := by omega
        rw [h1, h2, Nat.mod_eq_of_lt (by omega)]
        omega
theorem nan_word_f64 {b : Nat} (h : isNaN .f64 b = true) (hb : b < 18446744073709551616) : ∃ t, b = nanw .f64 t := by
  obtain ⟨s, t, e⟩ := nan_of h
  have hsw : Ieee.double.signWeight = 9223372036854775808 := rfl
  have hbin : Ieee.double.binade = 4503599627370496 := rfl
  have hinf : Ieee.double.infRung = 9218868437227405312 := rfl
  change Ieee.double.read b = _ at e
  unfold Ieee.Format.read at e
  rw [hsw, hbin, hinf] at e
  dsimp only at e
  split at e
  · cases e
  · split at e
    · cases e
    · split at e
      · cases e
      · refine ⟨2 * (b % 9223372036854775808 - 9218868437227405313) + b / 9223372036854775808, ?_⟩
        have hq : b / 9223372036854775808 < 2 := by omega
        have hr : b % 9223372036854775808 < 9223372036854775808 := Nat.mod_lt _ (by omega)
        have hb' : b = 9223372036854775808 * (b / 9223372036854775808) + b % 9223372036854775808 := by omega
        rw [nanw_f64_eq]
        generalize b / 9223372036854775808 = q at *
        generalize b % 9223372036854775808 = r at *
        have h1 : (2 * (r - 9218868437227405313) + q) % 2 = q := by omega
        have h2 : (2 * (r - 9218868437227405313) + q) / 2 = r - 9218868437227405313 := by omega
        rw [h1, h2, Nat.mod_eq_of_lt (by omega)]
        omega
/-- A word of the kind is what a draw may make of its canonical word. -/
theorem word_pick {k : FloatKind} {b : Nat} (hb : (Lit.float k b).wf = true) : ∃ t, b = pick k b t := by
  cases hn : isNaN k b
  · exact ⟨0, by rw [pick_num hn]⟩
  · cases k
    · obtain ⟨t, h⟩ := nan_word_f32 hn (by simpa [Lit.wf] using hb)
      exact ⟨t, by rw [pick_nan hn]; exact h⟩
    · obtain ⟨t, h⟩ := nan_word_f64 hn (by simpa [Lit.wf] using hb)
      exact ⟨t, by rw [pick_nan hn]; exact h⟩
theorem word_of_canon {k : FloatKind} {b X : Nat} (hb : (Lit.float k b).wf = true) (h : canon k b = canon k X) : ∃ t, b = pick k X t := by
  obtain ⟨t, ht⟩ := word_pick hb
  refine ⟨t, ht.trans ?_⟩
  rw [← pick_canon k b, h, pick_canon]

section
variable {P : Program} (w : World)
def isArith : BinOp → Bool
  | .add | .sub | .mul | .quo => true
  | _ => false
theorem run_fbin {op : BinOp} (h : isArith op = true) (k : FloatKind) (x y : Nat) :
    ∃ s n, (Op.floatArith op k x y).run P w = .ok (.float k (pick k (fbin op k x y) s)) (w.drewN n) := by
  cases hb : floatBits op k x y with
  | some r =>
    refine ⟨0, 0, ?_⟩
    have hf : fbin op k x y = r := by simp [fbin, hb]
    rw [hf, pick_num (floatBits_num hb)]
    exact run_floatArith w hb
  | none =>
    have hf : fbin op k x y = qnan k := by simp [fbin, hb]
    refine ⟨w.tape w.drawn (.nanBits k x y), 1, ?_⟩
    rw [hf, pick_nan (isNaN_qnan k)]
    have hr : (choose (.nanBits k x y)).run P w = .ok (nanw k (w.tape w.drawn (.nanBits k x y))) (w.drewN 1) := by rw [← nanw_bits k x y]; rfl
    unfold floatBits at hb
    cases op <;> simp only [isArith] at h <;> first | (cases h; done) | skip
    all_goals (simp only at hb; simp [Op.floatArith, hb, hr, -run_choose, -run_choose_drew])
theorem run_fconv {s d : FloatKind} (hne : s ≠ d) (b : Nat) (hok : convOk s b d) :
    ∃ t n, (Conv.floatToFloat s b d).run P w = .ok (.float d (pick d (fconv s b d) t)) (w.drewN n) := by
  cases hn : isNaN s b
  · have hc : fconv s b d = d.encode (s.decode b) := by simp [fconv, hn]
    refine ⟨0, 0, ?_⟩
    rw [pick_num (by rw [isNaN_fconv, hn]), hc]
    unfold Conv.floatToFloat
    rw [if_neg hne]
    unfold convOk at hok
    cases hd : s.decode b with
    | nan => simp [isNaN, hd, Ieee.Datum.isNaN] at hn
    | infinity t => simp [World.drewN_zero]
    | number t m e =>
      rcases hok with h | h | h
      · rw [hn] at h; cases h
      · simp [hd, Ieee.Datum.isInfinity] at h
      · rw [hd] at h; simp [h, World.drewN_zero]
  · refine ⟨w.tape w.drawn (.nanConv d b), 1, ?_⟩
    rw [pick_nan (by rw [isNaN_fconv, hn])]
    have hr : (choose (.nanConv d b)).run P w = .ok (nanw d (w.tape w.drawn (.nanConv d b))) (w.drewN 1) := by rw [← nanw_conv d b]; rfl
    obtain ⟨t, u, e⟩ := nan_of hn
    unfold Conv.floatToFloat
    rw [if_neg hne]
    have e' : s.decode b = .nan t u := e
    simp [e', hr, -run_choose, -run_choose_drew]

end
section
variable {P : Program} {w : World} {ops : Array Oper} {rest : List Oper} {a : Act} {Q : Exit → Act → World → Prop} {dst : Option Tmp} {ty : TypeId} {ps : String} {af : Array Edge}
/-- '+', '-', '*', '/' on floats. -/
theorem wpL_fbin {op : BinOp} {x y : Operand} {t yt : TypeId}
    (h : ∃ (k : FloatKind) (bx b' : Nat), isArith op = true ∧ a.eval x = .float k bx ∧ a.eval y = .float k b' ∧
      ∀ s n, wpList P ops Q rest (a.put dst (.float k (pick k (fbin op k bx b') s))) (w.drewN n)) :
    wpList P ops Q ({ dst := dst, op := .binOp op t x y yt, type := ty, pos := ps, after := af, guard := none } :: rest) a w := by
  obtain ⟨k, bx, b', har, hx, hy, hK⟩ := h
  refine wpList_plain rfl fun K' hK' => ?_
  obtain ⟨s, n, hrun⟩ := run_fbin (P := P) w har k bx b'
  unfold Oper.wp
  have : (binOp op t (.float k bx) (.float k b')) = Op.floatArith op k bx b' := by cases op <;> simp only [isArith] at har <;> first | (cases har; done) | simp [binOp]
  have hq : eqGuard op t x y (.float k bx) (.float k b') = pure () := by cases op <;> simp only [isArith] at har <;> first | (cases har; done) | rfl
  simp [execOp, hx, hy, this, hq, hrun]
  exact hK' _ _ (hK s n)
/-- The same behind a guard that is met. -/
theorem wpL_fbin_g {op : BinOp} {x y : Operand} {t yt : TypeId} {g : Nat × Bool}
    (h : Region.wanted { dst := dst, op := .binOp op t x y yt, type := ty, pos := ps, after := af, guard := some g } (yielded ops a.tmps) = true ∧ ∃ (k : FloatKind) (bx b' : Nat), isArith op = true ∧ a.eval x = .float k bx ∧ a.eval y = .float k b' ∧
      ∀ s n, wpList P ops Q rest (a.put dst (.float k (pick k (fbin op k bx b') s))) (w.drewN n)) :
    wpList P ops Q ({ dst := dst, op := .binOp op t x y yt, type := ty, pos := ps, after := af, guard := some g } :: rest) a w := by
  obtain ⟨hw, k, bx, b', har, hx, hy, hK⟩ := h
  refine wpList_step fun K' hK' => ?_
  rw [if_pos hw]
  obtain ⟨s, n, hrun⟩ := run_fbin (P := P) w har k bx b'
  unfold Oper.wp
  have : (binOp op t (.float k bx) (.float k b')) = Op.floatArith op k bx b' := by cases op <;> simp only [isArith] at har <;> first | (cases har; done) | simp [binOp]
  have hq : eqGuard op t x y (.float k bx) (.float k b') = pure () := by cases op <;> simp only [isArith] at har <;> first | (cases har; done) | rfl
  simp [execOp, hx, hy, this, hq, hrun]
  exact hK' _ _ (hK s n)
/-- 'float64(x)' of a float32, 'float32(x)' of a float64. -/
theorem wpL_fconv {x : Operand} {src to : TypeId}
    (h : ∃ (s d : FloatKind) (b : Nat), a.eval x = .float s b ∧ (P.underlying src).isSome = true ∧ P.underlying to = some (.float d) ∧ s ≠ d ∧ convOk s b d ∧
      ∀ t n, wpList P ops Q rest (a.put dst (.float d (pick d (fconv s b d) t))) (w.drewN n)) :
    wpList P ops Q ({ dst := dst, op := .convert src to x, type := ty, pos := ps, after := af, guard := none } :: rest) a w := by
  obtain ⟨s, d, b, hx, hs, hd, hne, hok, hK⟩ := h
  refine wpList_plain rfl fun K' hK' => ?_
  obtain ⟨t, n, hrun⟩ := run_fconv (P := P) w hne b hok
  obtain ⟨u, hs'⟩ := Option.isSome_iff_exists.1 hs
  unfold Oper.wp
  have hr : (convert src to (.float s b)).run P w = .ok (.float d (pick d (fconv s b d) t)) (w.drewN n) := by
    cases u <;> simp [convert, run_underlying hs', run_underlying hd, hrun]
  simp [execOp, hx, hr]
  exact hK' _ _ (hK t n)
/-- A conversion to the kind that it has. -/
theorem wpL_fsame {x : Operand} {src to : TypeId}
    (h : ∃ (d : FloatKind) (b : Nat), a.eval x = .float d b ∧ (P.underlying src).isSome = true ∧ P.underlying to = some (.float d) ∧ wpList P ops Q rest (a.put dst (.float d b)) w) :
    wpList P ops Q ({ dst := dst, op := .convert src to x, type := ty, pos := ps, after := af, guard := none } :: rest) a w := by
  obtain ⟨d, b, hx, hs, hd, hK⟩ := h
  refine wpList_plain rfl fun K' hK' => ?_
  obtain ⟨u, hs'⟩ := Option.isSome_iff_exists.1 hs
  unfold Oper.wp
  have hr : (convert src to (.float d b)).run P w = .ok (.float d b) w := by
    cases u <;> simp [convert, run_underlying hs', run_underlying hd, Conv.floatToFloat]
  simp [execOp, hx, hr]
  exact hK' _ _ hK
/-- 'int64(x)' of a float whose whole part the kind holds. -/
theorem wpL_ftoi {x : Operand} {src to : TypeId}
    (h : ∃ (s : FloatKind) (b : Nat) (k : IntKind) (n : Int), a.eval x = .float s b ∧ (P.underlying src).isSome = true ∧ P.underlying to = some (.int k) ∧ floatToIntVal s b k = some n ∧
      wpList P ops Q rest (a.put dst (.int k n)) w) :
    wpList P ops Q ({ dst := dst, op := .convert src to x, type := ty, pos := ps, after := af, guard := none } :: rest) a w := by
  obtain ⟨s, b, k, n, hx, hs, hd, hv, hK⟩ := h
  refine wpList_plain rfl fun K' hK' => ?_
  unfold Oper.wp
  simp [execOp, hx, run_convert_float_int w src to s k b n hs hd hv]
  exact hK' _ _ hK
/-- '-x' of a float. -/
theorem wpL_fneg {x : Operand} {t : TypeId}
    (h : ∃ (k : FloatKind) (b : Nat), a.eval x = .float k b ∧ wpList P ops Q rest (a.put dst (.float k (Op.negFloat k b))) w) :
    wpList P ops Q ({ dst := dst, op := .unOp .neg t x, type := ty, pos := ps, after := af, guard := none } :: rest) a w := by
  obtain ⟨k, b, hx, hK⟩ := h
  refine wpList_plain rfl fun K' hK' => ?_
  unfold Oper.wp
  simp [execOp, hx, Op.unary]
  exact hK' _ _ hK
end
end Go.Proofs.Ytogmcinaoemnpab
