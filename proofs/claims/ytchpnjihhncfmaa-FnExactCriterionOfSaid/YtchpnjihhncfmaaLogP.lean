/- The logarithm as a function of words: how often its number is halved or doubled, and that it is a number that a float32 can hold. -/
import Derived.Test.YtchpnjihhncfmaaAngP
namespace Go.Proofs.Ytchpnjihhncfmaa
open Go Go.RowKit

def c15W : Nat := 4609434218613702656
def c75W : Nat := 4604930618986332160
def twoW : Nat := 4611686018427387904
def ln2W : Nat := 4604418534313441775
def hv (Y : Nat) : Nat → Nat
  | 0 => Y
  | j + 1 => fbin .quo .f64 (hv Y j) twoW
def db (Z : Nat) : Nat → Nat
  | 0 => Z
  | i + 1 => fbin .mul .f64 (db Z i) twoW
/-- x is a number with the sign +, at most two to the power of B, and not zero: at least two to the power of C. -/
theorem dec_two : FloatKind.decode .f64 twoW = .number false 4503599627370496 (-51) := by decide +kernel
theorem quo_two {x m : Nat} {i : Int} (hd : FloatKind.decode .f64 x = .number false m i) (hm : m ≠ 0) :
    ∃ K p, fbin .quo .f64 x twoW = FloatKind.encode .f64 (.number false K p) ∧ (K : Rat) * two p = (m : Rat) * two (i - 1) := by
  obtain ⟨hm53, _, _⟩ := read_double x false m i hd
  have hl : m.log2 < 53 := (Nat.log2_lt hm).2 (by simpa using hm53)
  have h1 : FloatKind.f64.format.read x = _ := hd
  have h2 : FloatKind.f64.format.read twoW = _ := dec_two
  have hn2 : Nat.log2 4503599627370496 = 52 := by decide +kernel
  have hfb : FloatKind.f64.format.fractionBits + 2 = 54 := rfl
  obtain ⟨more, hmo⟩ : ∃ q, q = 54 + 52 - m.log2 := ⟨_, rfl⟩
  have hdvd : (m <<< more) = 4503599627370496 * (m * 2 ^ (more - 52)) := by
    rw [Nat.shiftLeft_eq]
    have : 2 ^ more = 4503599627370496 * 2 ^ (more - 52) := by
      have e : more = 52 + (more - 52) := by omega
      rw [e, Nat.pow_add]
      have : 52 + (more - 52) - 52 = more - 52 := by omega
      rw [this]
    rw [this, Nat.mul_left_comm]
  have hq : (m <<< more) / 4503599627370496 = m * 2 ^ (more - 52) := by rw [hdvd, Nat.mul_div_cancel_left _ (by decide)]
  have hr : (m <<< more) % 4503599627370496 = 0 := by rw [hdvd, Nat.mul_mod_right]
  refine ⟨2 * (m * 2 ^ (more - 52)), i - (-51) - more - 1, ?_, ?_⟩
  · have hb : floatBits .quo .f64 x twoW = some (FloatKind.encode .f64 (.number false (2 * (m * 2 ^ (more - 52))) (i - (-51) - more - 1))) := by
      simp only [floatBits, Ieee.Format.div, h1, h2, Ieee.Datum.quotient, hfb, hn2, ← hmo, hq, hr]
      rfl
    simp [fbin, hb]
  · have e1 : ((2 * (m * 2 ^ (more - 52)) : Nat) : Rat) = (m : Rat) * two ((more - 52 : Nat) : Int) * 2 := by
      rw [natCast_mul, natCast_mul, two_nat]
      have : ((2 : Nat) : Rat) = 2 := rfl
      rw [this]; grind
    have e2 : (2 : Rat) = two 1 := by decide +kernel
    rw [e1, e2, Rat.mul_assoc, Rat.mul_assoc, ← two_add, ← two_add]
    congr 2
    omega
/-- Halving. -/
theorem pl_half {x : Nat} {B C : Int} (h : Pl x B C) (hB : -1000 ≤ B - 1) (hB2 : B ≤ 1000) (hC : -1000 ≤ C - 1) : Pl (fbin .quo .f64 x twoW) (B - 1) (C - 1) := by
  obtain ⟨m, i, hd, hv, hw⟩ := h
  have hm : m ≠ 0 := by
    rintro rfl
    have := two_pos C
    have h0 : ((0 : Nat) : Rat) = 0 := rfl
    grind
  obtain ⟨K, p, hf, hK⟩ := quo_two hd hm
  rw [hf]
  have e0 : two (i - 1) * 2 = two i := by
    have a2 : (2 : Rat) = two 1 := by decide +kernel
    rw [a2, ← two_add]; congr 1; omega
  have e1 : two (B - 1) * 2 = two B := by
    have a2 : (2 : Rat) = two 1 := by decide +kernel
    rw [a2, ← two_add]; congr 1; omega
  have e2 : two (C - 1) * 2 = two C := by
    have a2 : (2 : Rat) = two 1 := by decide +kernel
    rw [a2, ← two_add]; congr 1; omega
  have u1 : (m : Rat) * two i = (m : Rat) * two (i - 1) * 2 := by rw [← e0]; grind
  have v : (K : Rat) * two p ≤ two (B - 1) := by rw [hK]; grind
  have w : two (C - 1) ≤ (K : Rat) * two p := by rw [hK]; grind
  obtain ⟨m', e', hd', h1, h2⟩ := encode_both false K p (B - 1) v (by omega) (by omega)
  exact ⟨m', e', hd', h1, h2 (C - 1) (by omega) w⟩
/-- Doubling. -/
theorem pl_double {x : Nat} {B C : Int} (h : Pl x B C) (hB : -1000 ≤ B) (hB2 : B ≤ 1000) (hC : -1000 ≤ C) : Pl (fbin .mul .f64 x twoW) (B + 1) (C + 1) := by
  obtain ⟨m, i, hd, hv, hw⟩ := h
  obtain ⟨n, j, hd2, hn2⟩ : ∃ n j, FloatKind.decode .f64 twoW = .number false n j ∧ (n : Rat) * two j = 2 := ⟨_, _, dec_two, by decide +kernel⟩
  have h1' : FloatKind.f64.format.read x = _ := hd
  have h2' : FloatKind.f64.format.read twoW = _ := hd2
  have hb : floatBits .mul .f64 x twoW = some (FloatKind.encode .f64 (.number false (m * n) (i + j))) := by
    simp [floatBits, Ieee.Format.mul, h1', h2', Ieee.Datum.product, FloatKind.encode]
  have hf : fbin .mul .f64 x twoW = FloatKind.encode .f64 (.number false (m * n) (i + j)) := by simp [fbin, hb]
  rw [hf]
  have hK : ((m * n : Nat) : Rat) * two (i + j) = (m : Rat) * two i * 2 := by
    rw [natCast_mul, two_add]
    have : (m : Rat) * (n : Rat) * (two i * two j) = (m : Rat) * two i * ((n : Rat) * two j) := by grind
    rw [this, hn2]
  have e1 : two (B + 1) = two B * 2 := by
    have a2 : (2 : Rat) = two 1 := by decide +kernel
    rw [a2, ← two_add]
  have e2 : two (C + 1) = two C * 2 := by
    have a2 : (2 : Rat) = two 1 := by decide +kernel
    rw [a2, ← two_add]
  have v : ((m * n : Nat) : Rat) * two (i + j) ≤ two (B + 1) := by rw [hK, e1]; grind
  have w : two (C + 1) ≤ ((m * n : Nat) : Rat) * two (i + j) := by rw [hK, e2]; grind
  obtain ⟨m', e', hd', h1, h2⟩ := encode_both false _ _ (B + 1) v (by omega) (by omega)
  exact ⟨m', e', hd', h1, h2 (C + 1) (by omega) w⟩
theorem dec_c15 : FloatKind.decode .f64 c15W = .number false 6755399441055744 (-52) := by decide +kernel
theorem dec_c75 : FloatKind.decode .f64 c75W = .number false 6755399441055744 (-53) := by decide +kernel
theorem sval_false (m : Nat) (e : Int) : sval false m e = (m : Rat) * two e := by unfold sval; simp
/-- A number of at least one and a half is more than one; one that is less is at most two. -/
theorem ge15 {x : Nat} {B C : Int} (h : Pl x B C) : (ge64 x c15W = true → 1 ≤ B ∧ Pl x B 0) ∧ (ge64 x c15W = false → Pl x 1 C) := by
  obtain ⟨m, e, hd, hv, hw⟩ := h
  obtain ⟨o1, o2, o3⟩ := order_val hd dec_c15
  rw [sval_false, sval_false] at o1 o2 o3
  have k1 : two 0 < ((6755399441055744 : Nat) : Rat) * two (-52) := by decide +kernel
  have k2 : ((6755399441055744 : Nat) : Rat) * two (-52) ≤ two 1 := by decide +kernel
  unfold ge64
  by_cases c1 : (m : Rat) * two e < ((6755399441055744 : Nat) : Rat) * two (-52)
  · rw [o1 c1]
    exact ⟨(fun h => by cases h), fun _ => ⟨m, e, hd, Rat.le_trans (Rat.le_of_lt c1) k2, hw⟩⟩
  · have hge : ((6755399441055744 : Nat) : Rat) * two (-52) ≤ (m : Rat) * two e := by grind
    have ho : FloatKind.f64.format.order x c15W = some .gt ∨ FloatKind.f64.format.order x c15W = some .eq := by
      by_cases c2 : (m : Rat) * two e = ((6755399441055744 : Nat) : Rat) * two (-52)
      · exact .inr (o2 c2)
      · exact .inl (o3 (by grind))
    refine ⟨fun _ => ⟨?_, m, e, hd, hv, by grind⟩, fun h => ?_⟩
    · by_cases hB : 1 ≤ B
      · exact hB
      · exfalso
        have := two_mono (show B ≤ 0 by omega)
        grind
    · rcases ho with h' | h' <;> rw [h'] at h <;> cases h
theorem lt75 {x : Nat} {B C : Int} (h : Pl x B C) : (lt64 x c75W = true → C ≤ -1 ∧ Pl x 0 C) := by
  obtain ⟨m, e, hd, hv, hw⟩ := h
  obtain ⟨o1, o2, o3⟩ := order_val hd dec_c75
  rw [sval_false, sval_false] at o1 o2 o3
  have k1 : ((6755399441055744 : Nat) : Rat) * two (-53) < two 0 := by decide +kernel
  intro h
  unfold lt64 at h
  by_cases c1 : (m : Rat) * two e < ((6755399441055744 : Nat) : Rat) * two (-53)
  · refine ⟨?_, m, e, hd, by grind, hw⟩
    by_cases hC : C ≤ -1
    · exact hC
    · exfalso
      have := two_mono (show 0 ≤ C by omega)
      grind
  · exfalso
    by_cases c2 : (m : Rat) * two e = ((6755399441055744 : Nat) : Rat) * two (-53)
    · rw [o2 c2] at h; cases h
    · rw [o3 (by grind)] at h; cases h
/-- It is halved j times: as long as it is one and a half or more. -/
def First1 (Y j : Nat) : Prop := ge64 (hv Y j) c15W = false ∧ ∀ k, k < j → ge64 (hv Y k) c15W = true
def First2 (Z i : Nat) : Prop := lt64 (db Z i) c75W = false ∧ ∀ k, k < i → lt64 (db Z k) c75W = true
theorem First1.uniq {Y j k : Nat} (h : First1 Y j) (h' : First1 Y k) : j = k := by
  rcases Nat.lt_trichotomy j k with c | c | c
  · have := h'.2 j c; rw [h.1] at this; cases this
  · exact c
  · have := h.2 k c; rw [h'.1] at this; cases this
theorem First2.uniq {Y j k : Nat} (h : First2 Y j) (h' : First2 Y k) : j = k := by
  rcases Nat.lt_trichotomy j k with c | c | c
  · have := h'.2 j c; rw [h.1] at this; cases this
  · exact c
  · have := h.2 k c; rw [h'.1] at this; cases this
def logS (x : Nat) : Nat := fbin .quo .f64 (fbin .sub .f64 x oneW) (fbin .add .f64 x oneW)
def lstep (u c q : Nat) : Nat := fbin .add .f64 (fbin .quo .f64 oneW c) (fbin .mul .f64 u q)
def logR (u : Nat) : Nat :=
  lstep u (floatOfInt .f64 1) (lstep u (floatOfInt .f64 3) (lstep u (floatOfInt .f64 5) (lstep u (floatOfInt .f64 7) (lstep u (floatOfInt .f64 9) (lstep u (floatOfInt .f64 11) (lstep u (floatOfInt .f64 13) (lstep u (floatOfInt .f64 15)
    (lstep u (floatOfInt .f64 17) (lstep u (floatOfInt .f64 19) (lstep u (floatOfInt .f64 21) (lstep u (floatOfInt .f64 23) (lstep u (floatOfInt .f64 25) 0))))))))))))
def logQ (x : Nat) (e : Int) : Nat := fbin .add .f64 (fbin .mul .f64 twoW (fbin .mul .f64 (logS x) (logR (fbin .mul .f64 (logS x) (logS x))))) (fbin .mul .f64 (floatOfInt .f64 e) ln2W)
theorem bd_lstep {u p : Nat} {A B : Int} {c : Nat} (hu : Bd .f64 u A) (hp : Bd .f64 p B) (hc : Lb .f64 c 0) (h0 : 1 ≤ A + B) (h1 : A + B ≤ 1000) : Bd .f64 (lstep u c p) (A + B + 1) := by
  have b1 := bd_mul hu hp (by simp only [lowE]; omega) (by simp only [topE]; omega)
  have b2 := bd_quo bd_one hc (by decide) (by decide)
  exact bd_add (b2.mono (by omega)) b1 (by simp only [lowE]; omega) (by simp only [topE]; omega)
theorem bd_logR {u : Nat} (hu : Bd .f64 u 6) : Bd .f64 (logR u) 91 := by
  unfold logR
  have p1 := bd_lstep hu bd_zero (lb_int 25 0 (by decide) (by decide)) (by decide) (by decide)
  have p2 := bd_lstep hu p1 (lb_int 23 0 (by decide) (by decide)) (by decide) (by decide)
  have p3 := bd_lstep hu p2 (lb_int 21 0 (by decide) (by decide)) (by decide) (by decide)
  have p4 := bd_lstep hu p3 (lb_int 19 0 (by decide) (by decide)) (by decide) (by decide)
  have p5 := bd_lstep hu p4 (lb_int 17 0 (by decide) (by decide)) (by decide) (by decide)
  have p6 := bd_lstep hu p5 (lb_int 15 0 (by decide) (by decide)) (by decide) (by decide)
  have p7 := bd_lstep hu p6 (lb_int 13 0 (by decide) (by decide)) (by decide) (by decide)
  have p8 := bd_lstep hu p7 (lb_int 11 0 (by decide) (by decide)) (by decide) (by decide)
  have p9 := bd_lstep hu p8 (lb_int 9 0 (by decide) (by decide)) (by decide) (by decide)
  have p10 := bd_lstep hu p9 (lb_int 7 0 (by decide) (by decide)) (by decide) (by decide)
  have p11 := bd_lstep hu p10 (lb_int 5 0 (by decide) (by decide)) (by decide) (by decide)
  have p12 := bd_lstep hu p11 (lb_int 3 0 (by decide) (by decide)) (by decide) (by decide)
  have p13 := bd_lstep hu p12 (lb_int 1 0 (by decide) (by decide)) (by decide) (by decide)
  exact p13.mono (by decide)
theorem bd_two : Bd .f64 twoW 1 := ⟨false, 4503599627370496, -51, by decide +kernel, by decide +kernel⟩
theorem bd_ln2 : Bd .f64 ln2W 0 := ⟨false, 6243314768165359, -53, by decide +kernel, by decide +kernel⟩
theorem bd_int (n : Int) (C : Nat) (h : n.natAbs ≤ 2 ^ C) (hC : C ≤ 52) : Bd .f64 (floatOfInt .f64 n) C := by
  have h53 : n.natAbs < 9007199254740992 := by
    have : 2 ^ C ≤ 2 ^ 52 := Nat.pow_le_pow_right (by omega) hC
    simp only [Nat.reducePow] at this
    omega
  obtain ⟨s, m, e, hd, hv⟩ := floatOfInt_val n h53
  refine ⟨s, m, e, hd, ?_⟩
  rw [sval_abs s m e (two C), hv, two_nat]
  have h1 : n ≤ ((2 ^ C : Nat) : Int) := by omega
  have h2 : -((2 ^ C : Nat) : Int) ≤ n := by omega
  refine ⟨?_, by exact_mod_cast h1⟩
  have : ((-((2 ^ C : Nat) : Int) : Int) : Rat) = -((2 ^ C : Nat) : Rat) := by norm_cast
  rw [← this]
  exact_mod_cast h2
theorem bd_logQ {x : Nat} {C : Int} (hx : Pl x 1 C) {e : Int} (he : e.natAbs ≤ 512) : Bd .f64 (logQ x e) 97 := by
  have s1 : Bd .f64 (fbin .sub .f64 x oneW) 2 := bd_sub hx.pb.bd (bd_one.mono (by decide)) (by decide) (by decide)
  have hadd : fbin .add .f64 x oneW = fbin .add .f64 oneW x := by
    obtain ⟨m, i, hd, _, _⟩ := hx
    have h1 : FloatKind.f64.format.read x = _ := hd
    have h2 : FloatKind.f64.format.read oneW = .number false 4503599627370496 (-52) := by decide +kernel
    have hs : ∀ (m n : Nat) (i j : Int), (Ieee.Datum.number false m i).sum (.number false n j) = (Ieee.Datum.number false n j).sum (.number false m i) := by
      intro m n i j
      simp only [Ieee.Datum.sum, Bool.and_self]
      rw [Int.min_comm i j, Int.add_comm]
    simp only [fbin, floatBits, Ieee.Format.add, h1, h2, hs]
  have s2 : Pl (fbin .add .f64 x oneW) 2 0 := by rw [hadd]; exact pl_add (pl_one (by decide)) hx.pb (by decide) (by decide) (by decide)
  have s3 : Bd .f64 (logS x) 3 := bd_quo s1 s2.lb (by decide) (by decide)
  have s4 := bd_mul s3 s3 (by decide) (by decide)
  have s5 := bd_mul s3 (bd_logR s4) (by decide) (by decide)
  have s6 := bd_mul bd_two s5 (by decide) (by decide)
  have s7 := bd_mul (bd_int e 9 (by simpa using he) (by decide)) bd_ln2 (by decide) (by decide)
  exact (bd_add s6 (s7.mono (by decide)) (by decide) (by decide)).mono (by decide)
end Go.Proofs.Ytchpnjihhncfmaa
