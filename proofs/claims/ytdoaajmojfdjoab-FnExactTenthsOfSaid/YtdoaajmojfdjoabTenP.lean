/- The logarithm is small, so its tenths of decibels are whole numbers that are held; the whole part downwards. -/
import Derived.Test.YtdoaajmojfdjoabLogV
namespace Go.Proofs.Ytdoaajmojfdjoab
open Go Go.RowKit

/-- One less than a number of at most two is at most one. -/
theorem bd_subone {x : Nat} {C : Int} (h : Pl x 1 C) : Bd .f64 (fbin .sub .f64 x oneW) 0 := by
  obtain ⟨m, i, hd, hv, _⟩ := h
  have h1 : FloatKind.f64.format.read x = _ := hd
  have h2 : FloatKind.f64.format.read oneW = .number false 4503599627370496 (-52) := by decide +kernel
  have hone : ((4503599627370496 : Nat) : Rat) * two (-52) = 1 := by decide +kernel
  have hb : floatBits .sub .f64 x oneW = ((Ieee.Datum.number false m i).sum (.number true 4503599627370496 (-52))).map FloatKind.f64.format.write := by
    simp [floatBits, Ieee.Format.sub, h1, h2, Ieee.Datum.opposite]
  simp only [Ieee.Datum.sum, Option.map_some] at hb
  unfold fbin
  rw [hb, Option.getD_some]
  refine encode_bd .f64 _ _ _ _ ?_ (by decide) (by decide)
  have e1 : two i = two ((i - min i (-52)).toNat : Int) * two (min i (-52)) := by rw [← two_add]; congr 1; omega
  have e2 : two (-52) = two ((-52 - min i (-52)).toNat : Int) * two (min i (-52)) := by rw [← two_add]; congr 1; omega
  have hA : Ieee.signed false m (i - min i (-52)).toNat = ((m * 2 ^ (i - min i (-52)).toNat : Nat) : Int) := by unfold Ieee.signed; rw [Nat.shiftLeft_eq]; simp
  have hB : Ieee.signed true 4503599627370496 (-52 - min i (-52)).toNat = -((4503599627370496 * 2 ^ (-52 - min i (-52)).toNat : Nat) : Int) := by unfold Ieee.signed; rw [Nat.shiftLeft_eq]; simp
  rw [hA, hB]
  have vA : ((m * 2 ^ (i - min i (-52)).toNat : Nat) : Rat) * two (min i (-52)) = (m : Rat) * two i := by rw [e1, natCast_mul, two_nat]; grind
  have vB : ((4503599627370496 * 2 ^ (-52 - min i (-52)).toNat : Nat) : Rat) * two (min i (-52)) = 1 := by rw [← hone, e2, natCast_mul, two_nat]; grind
  generalize m * 2 ^ (i - min i (-52)).toNat = A at *
  generalize 4503599627370496 * 2 ^ (-52 - min i (-52)).toNat = B at *
  have ht := two_pos (min i (-52))
  have h0 : (0 : Rat) ≤ (m : Rat) * two i := Rat.mul_nonneg (natCast_nonneg m) (Rat.le_of_lt (two_pos i))
  have two0 : two 0 = 1 := by decide +kernel
  have two1 : two 1 = 2 := by decide +kernel
  rw [two1] at hv
  rw [two0]
  generalize (m : Rat) * two i = V at *
  generalize two (min i (-52)) = T at *
  by_cases hab : B ≤ A
  · obtain ⟨D, rfl⟩ : ∃ D, A = B + D := ⟨A - B, by omega⟩
    have : (((B + D : Nat) : Int) + -((B : Nat) : Int)).natAbs = D := by omega
    rw [this]
    have hsum : ((B + D : Nat) : Rat) = (B : Rat) + (D : Rat) := by norm_cast
    rw [hsum] at vA
    grind
  · obtain ⟨D, rfl⟩ : ∃ D, B = A + D := ⟨B - A, by omega⟩
    have : (((A : Nat) : Int) + -((A + D : Nat) : Int)).natAbs = D := by omega
    rw [this]
    have hsum : ((A + D : Nat) : Rat) = (A : Rat) + (D : Rat) := by norm_cast
    rw [hsum] at vB
    grind
theorem bd_logR2 {u : Nat} (hu : Bd .f64 u 2) : Bd .f64 (logR u) 39 := by
  unfold logR
  have p1 := bd_lstep hu bd_zero (lb_int 25 0 (by decide) (by decide)) (by decide) (by decide)
  have p2 := bd_lstep hu p1 (lb_int 23 0 (by decide) (by decide)) (by decide) (by decide)
  have p3 := bd_lstep hu p2 (lb_int 21 0 (by decide) (by decide)) (by decide) (by decide)
  have p4 := bd_lstep hu p3 (lb_int 19 0 (by decide) (by decide)) (by decide) (by decide)
  have p5 := bd_lstep hu p4 (lb_int 17 0 (by decide) (by decide)) (by decide) (by decide)
  have p6 := bd_lstep hu p5 (lb_int 15 0 (by decide) (by decide)) (by decide) (by decide)
  have p7 := bd_lstep hu p6 (lb_int 13 0 (by decide) (by decide)) (by decide) (by decide)
  have p8 := bd_lstep hu p7 (lb_int 11 0 (by decide) (by decide)) (by decide) (by decide)
  have p9 := bd_lstep hu p8 (lb_int 9 0 (by decide) (by decide)) (by decide) (by decide)
  have p10 := bd_lstep hu p9 (lb_int 7 0 (by decide) (by decide)) (by decide) (by decide)
  have p11 := bd_lstep hu p10 (lb_int 5 0 (by decide) (by decide)) (by decide) (by decide)
  have p12 := bd_lstep hu p11 (lb_int 3 0 (by decide) (by decide)) (by decide) (by decide)
  have p13 := bd_lstep hu p12 (lb_int 1 0 (by decide) (by decide)) (by decide) (by decide)
  exact p13.mono (by decide)
theorem bd_logQ2 {x : Nat} {C : Int} (hx : Pl x 1 C) {e : Int} (he : e.natAbs ≤ 512) : Bd .f64 (logQ x e) 42 := by
  have s1 : Bd .f64 (fbin .sub .f64 x oneW) 0 := bd_subone hx
  have hadd : fbin .add .f64 x oneW = fbin .add .f64 oneW x := by
    obtain ⟨m, i, hd, _, _⟩ := hx
    have h1 : FloatKind.f64.format.read x = _ := hd
    have h2 : FloatKind.f64.format.read oneW = .number false 4503599627370496 (-52) := by decide +kernel
    have hs : ∀ (m n : Nat) (i j : Int), (Ieee.Datum.number false m i).sum (.number false n j) = (Ieee.Datum.number false n j).sum (.number false m i) := by
      intro m n i j
      simp only [Ieee.Datum.sum, Bool.and_self]
      rw [Int.min_comm i j, Int.add_comm]
    simp only [fbin, floatBits, Ieee.Format.add, h1, h2, hs]
  have s2 : Pl (fbin .add .f64 x oneW) 2 0 := by rw [hadd]; exact pl_add (pl_one (by decide)) hx.pb (by decide) (by decide) (by decide)
  have s3 : Bd .f64 (logS x) 1 := bd_quo s1 s2.lb (by decide) (by decide)
  have s4 := bd_mul s3 s3 (by decide) (by decide)
  have s5 := bd_mul s3 (bd_logR2 s4) (by decide) (by decide)
  have s6 := bd_mul bd_two s5 (by decide) (by decide)
  have s7 := bd_mul (bd_int e 9 (by simpa using he) (by decide)) bd_ln2 (by decide) (by decide)
  exact (bd_add s6 (s7.mono (by decide)) (by decide) (by decide)).mono (by decide)
def tenC : Nat := 4631308968768463603
def halfC : Nat := 4602678819172646912
theorem bd_tenC : Bd .f64 tenC 6 := ⟨_, _, _, rfl, by decide +kernel⟩
theorem bd_halfC : Bd .f64 halfC 0 := ⟨_, _, _, rfl, by decide +kernel⟩
def tenN (L : Nat) : Nat := fbin .add .f64 (fbin .mul .f64 L tenC) halfC
theorem bd_tenM {L : Nat} (h : Bd .f64 L 42) : Bd .f64 (fbin .mul .f64 L tenC) 48 := bd_mul h bd_tenC (by decide) (by decide)
theorem bd_tenN {L : Nat} (h : Bd .f64 L 42) : Bd .f64 (tenN L) 49 := bd_add (bd_tenM h) (bd_halfC.mono (by decide)) (by decide) (by decide)
/-- The whole part, downwards. -/
def floorW (y : Nat) : Nat := FloatKind.encode .f64 ((FloatKind.decode .f64 y).integral .down)
theorem cut_down (s : Bool) (n d : Nat) : Ieee.Toward.down.cut s n d ≤ n / 2 ^ d + 1 := by
  rw [← zcut s n d]
  unfold Ieee.Toward.cut
  dsimp only
  have := Bool.toNat_le (s && n % (1 <<< min d (n.log2 + 2)) != 0)
  have h0 : false.toNat = 0 := rfl
  omega
theorem bd_floor {y : Nat} (h : Bd .f64 y 49) : Bd .f64 (floorW y) 50 := by
  obtain ⟨s, m, e, hd, hv⟩ := h
  have hf : floorW y = FloatKind.encode .f64 (.number s (Ieee.Toward.down.cut s (m <<< e.toNat) (-e).toNat) 0) := by unfold floorW; rw [hd]; rfl
  rw [hf]
  refine encode_bd .f64 _ _ _ _ ?_ (by decide) (by decide)
  have hK := cut_down s (m <<< e.toNat) (-e).toNat
  obtain ⟨q, hq⟩ : ∃ q, q = (m <<< e.toNat) / 2 ^ (-e).toNat := ⟨_, rfl⟩
  rw [← hq] at hK
  generalize Ieee.Toward.down.cut s (m <<< e.toNat) (-e).toNat = K at *
  have e0 : two e * two ((-e).toNat : Int) = two (e.toNat : Int) := by rw [← two_add]; congr 1; omega
  have pd := two_pos ((-e).toNat : Int)
  have hq1 : q * 2 ^ (-e).toNat ≤ m * 2 ^ e.toNat := by rw [hq, Nat.shiftLeft_eq]; exact Nat.div_mul_le_self _ _
  have r1 : (q : Rat) * two ((-e).toNat : Int) ≤ (m : Rat) * two e * two ((-e).toNat : Int) := by
    rw [Rat.mul_assoc, e0, two_nat, two_nat]; exact_mod_cast hq1
  have r2 := Rat.le_of_mul_le_mul_right r1 pd
  have two0 : two 0 = 1 := by decide +kernel
  have t49 : (1 : Rat) ≤ two 49 := by decide +kernel
  have t50 : two 50 = two 49 + two 49 := by decide +kernel
  have hKr : (K : Rat) ≤ (q : Rat) + 1 := by
    have : (K : Rat) ≤ ((q + 1 : Nat) : Rat) := by exact_mod_cast hK
    have e : ((q + 1 : Nat) : Rat) = (q : Rat) + 1 := by norm_cast
    rw [← e]; exact this
  rw [two0, t50]
  grind
theorem floor_int {y : Nat} (h : Bd .f64 y 49) : floatToIntVal .f64 (floorW y) .i64 = some (ipart (floorW y)) := by
  obtain ⟨s, m, e, hd, hv⟩ := bd_floor h
  exact (ipart_val hd (by have : two 50 < two 52 := by decide +kernel
                          exact Std.lt_of_le_of_lt hv this)).1
theorem run_floor {y : Nat} (h : Bd .f64 y 49) (w : World) : (callFunc 123 #[.float .f64 y]).run Try.prog w = .ok (.value (.float .f64 (floorW y))) w := by
  have h2 : (callFunc 123 #[.float .f64 y]).run Try.prog w = (Extern.MathFloor.toIntegral "math.archFloor" .down #[.float .f64 y] >>= fun v => pure (Next.value v)).run Try.prog w := by kernel_rfl
  obtain ⟨s, m, e, hd, hv⟩ := h
  rw [h2, Sem.run_bind]
  have h3 : (Extern.MathFloor.toIntegral "math.archFloor" .down #[.float .f64 y]).run Try.prog w = .ok (.float .f64 (floorW y)) w := by
    obtain ⟨N, hN⟩ : ∃ N : Bool → Nat → Sem Value, Extern.MathFloor.toIntegral "math.archFloor" .down #[.float .f64 y] = (match FloatKind.decode .f64 y with | .nan s t => N s t | d => pure (.float .f64 (FloatKind.encode .f64 (d.integral .down)))) := ⟨_, rfl⟩
    rw [hN]
    unfold floorW
    rw [hd]
    rfl
  rw [h3]
  rfl
end Go.Proofs.Ytdoaajmojfdjoab
