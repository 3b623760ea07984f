
import Derived.Test.YtmpcalpapkedhaaSinP
import Derived.Test.YtmpcalpapkedhaaPhaA
import Derived.Test.YtmpcalpapkedhaaSad
import Derived.Test.YtmpcalpapkedhaaRowKit
namespace Go.Proofs.Ytmpcalpapkedhaa
open Go Go.ChangeShapes Go.WideShapes Go.ChangeAt Go.RowKit
/- A 32-bit number made a 64-bit one stays what it is, and stands to 0 as it did. -/
open Go Go.RowKit

theorem widen_val {x : Nat} {s : Bool} {m : Nat} {e : Int} (hd : FloatKind.decode .f32 x = .number s m e) : ∃ m' e', FloatKind.decode .f64 (fconv .f32 x .f64) = .number s m' e' ∧ (m' : Rat) * two e' = (m : Rat) * two e := by
  have hn : isNaN .f32 x = false := by simp [isNaN, hd, Ieee.Datum.isNaN]
  have hf : fconv .f32 x .f64 = FloatKind.encode .f64 (.number s m e) := by simp [fconv, hn, hd]
  rw [hf]
  obtain ⟨h1, h2, h3⟩ := read_single x s m e hd
  by_cases hm : m = 0
  · subst hm
    refine ⟨0, -1074, ?_, ?_⟩
    · have : FloatKind.encode .f64 (.number s 0 e) = Ieee.double.word s 0 := nearest_zero Ieee.double s e
      rw [this]
      cases s <;> decide +kernel
    · have h0 : ((0 : Nat) : Rat) = 0 := rfl
      rw [h0, Rat.zero_mul, Rat.zero_mul]
  · have hl : m.log2 < 24 := (Nat.log2_lt hm).2 h1
    refine ⟨_, _, widen_word hm h1 h2 h3, ?_⟩
    rw [Nat.shiftLeft_eq, natCast_mul, ← two_nat, Rat.mul_assoc, ← two_add]
    congr 2
    omega
theorem dec0_32 : FloatKind.decode .f32 0 = .number false 0 (-149) := by decide +kernel
theorem dec0_64 : FloatKind.decode .f64 0 = .number false 0 (-1074) := by decide +kernel
theorem order_widen {x : Nat} {s : Bool} {m : Nat} {e : Int} (hd : FloatKind.decode .f32 x = .number s m e) : FloatKind.f64.format.order (fconv .f32 x .f64) 0 = FloatKind.f32.format.order x 0 := by
  obtain ⟨m', e', hd', hv⟩ := widen_val hd
  obtain ⟨a1, a2, a3⟩ := order_val hd dec0_32
  obtain ⟨b1, b2, b3⟩ := order_val hd' dec0_64
  have z1 : sval false 0 (-149) = 0 := by decide +kernel
  have z2 : sval false 0 (-1074) = 0 := by decide +kernel
  have hs : sval s m' e' = sval s m e := by
    unfold sval
    cases s
    · simp only [Bool.false_eq_true, if_false]; exact hv
    · simp only [if_true]
      have p : ∀ (q : Nat) (e : Int), -(q : Rat) * two e = -((q : Rat) * two e) := fun q e => by grind
      rw [p, p, hv]
  rw [z1] at a1 a2 a3
  rw [z2, hs] at b1 b2 b3
  by_cases c1 : sval s m e < 0
  · rw [a1 c1, b1 c1]
  · by_cases c2 : sval s m e = 0
    · rw [a2 c2, b2 c2]
    · have c3 : 0 < sval s m e := by grind
      rw [a3 c3, b3 c3]

/- A ring of light: how great the parts of a point of the unit circle are at most, as both reckon them, and what is made of them. -/

/-- A difference whose exact value is small. -/
theorem bd_sub_exact {x y : Nat} {s t : Bool} {m n : Nat} {i j B : Int} (hx : FloatKind.decode .f64 x = .number s m i) (hy : FloatKind.decode .f64 y = .number t n j) (h1 : -two B ≤ sval s m i - sval t n j) (h2 : sval s m i - sval t n j ≤ two B) (hlo : lowE .f64 ≤ B) (hhi : B ≤ topE .f64) :
    Bd .f64 (fbin .sub .f64 x y) B := by
  have hx' : FloatKind.f64.format.read x = _ := hx
  have hy' : FloatKind.f64.format.read y = _ := hy
  have hneg : sval (!t) n j = -sval t n j := by unfold sval; cases t <;> simp only [Bool.not_false, Bool.not_true, Bool.false_eq_true, if_false, if_true] <;> grind
  cases hb : floatBits .sub .f64 x y with
  | none => simp [floatBits, Ieee.Format.sub, hx', hy', Ieee.Datum.opposite, Ieee.Datum.sum] at hb
  | some r =>
    have hf : fbin .sub .f64 x y = r := by simp [fbin, hb]
    rw [hf]
    have g1 : -two B ≤ sval s m i + sval (!t) n j := by rw [hneg]; grind
    have g2 : sval s m i + sval (!t) n j ≤ two B := by rw [hneg]; grind
    refine bd_sum_exact (s := s) (t := !t) g1 g2 hlo hhi ?_
    simpa [floatBits, Ieee.Format.sub, hx', hy', Ieee.Datum.opposite] using hb
theorem half_dec64 : FloatKind.decode .f64 halfW = .number false 4503599627370496 (-53) := by decide +kernel
theorem quar_dec64 : FloatKind.decode .f64 quarW = .number false 4503599627370496 (-54) := by decide +kernel
theorem half_val : sval false 4503599627370496 (-53) = 1 / 2 := by decide +kernel
theorem quar_val : sval false 4503599627370496 (-54) = 1 / 4 := by decide +kernel
theorem two_one' : two 1 = 2 := by decide +kernel
theorem bd_sineG {f : Nat} (hf : Bd .f64 f 1) : Bd .f64 (sineG f) 1 := by
  unfold sineG
  split
  · rename_i h
    obtain ⟨s, m, e, hd, hv⟩ := hf
    obtain ⟨o1, o2, o3⟩ := order_val hd half_dec64
    rw [half_val] at o1 o2 o3
    have hb := (sval_abs s m e 2).1 (by rw [← two_one']; exact hv)
    have hge : 1 / 2 ≤ sval s m e := by
      by_cases c : sval s m e < 1 / 2
      · unfold ge64 at h
        rw [o1 c] at h
        cases h
      · grind
    exact bd_sub_exact hd half_dec64 (by rw [half_val, two_one']; grind) (by rw [half_val, two_one']; grind) (by decide) (by decide)
  · exact hf
theorem bd_sineH {g : Nat} (hg : Bd .f64 g 1) : Bd .f64 (sineH g) 1 := by
  unfold sineH
  split
  · rename_i h
    obtain ⟨s, m, e, hd, hv⟩ := hg
    obtain ⟨o1, o2, o3⟩ := order_val hd quar_dec64
    rw [quar_val] at o1 o2 o3
    have hb := (sval_abs s m e 2).1 (by rw [← two_one']; exact hv)
    have hgt : 1 / 4 < sval s m e := by
      by_cases c : sval s m e < 1 / 4
      · unfold gt64 at h
        rw [o1 c] at h
        cases h
      · by_cases c2 : sval s m e = 1 / 4
        · unfold gt64 at h
          rw [o2 c2] at h
          cases h
        · grind
    exact bd_sub_exact half_dec64 hd (by rw [half_val, two_one']; grind) (by rw [half_val, two_one']; grind) (by decide) (by decide)
  · exact hg
theorem bd_sineR' {u : Nat} (hu : Bd .f64 u 8) : Bd .f64 (sineR u) 35 := by
  unfold sineR
  have p1 := bd_sstep hu bd_one (lb_int 272 8 (by decide) (by decide)) (by decide) (by decide) (by decide) (by decide)
  have p2 := bd_sstep hu p1 (lb_int 210 7 (by decide) (by decide)) (by decide) (by decide) (by decide) (by decide)
  have p3 := bd_sstep hu p2 (lb_int 156 7 (by decide) (by decide)) (by decide) (by decide) (by decide) (by decide)
  have p4 := bd_sstep hu p3 (lb_int 110 6 (by decide) (by decide)) (by decide) (by decide) (by decide) (by decide)
  have p5 := bd_sstep hu p4 (lb_int 72 6 (by decide) (by decide)) (by decide) (by decide) (by decide) (by decide)
  have p6 := bd_sstep hu p5 (lb_int 42 5 (by decide) (by decide)) (by decide) (by decide) (by decide) (by decide)
  have p7 := bd_sstep hu p6 (lb_int 20 4 (by decide) (by decide)) (by decide) (by decide) (by decide) (by decide)
  have p8 := bd_sstep hu p7 (lb_int 6 2 (by decide) (by decide)) (by decide) (by decide) (by decide) (by decide)
  exact p8.mono (by decide)
theorem bd_sineM' {f : Nat} (hf : Bd .f64 f 1) : Bd .f64 (sineM f) 39 := by
  have hz : Bd .f64 (sineZ f) 4 := bd_mul (bd_sineH (bd_sineG hf)) bd_tau (by decide) (by decide)
  have hu : Bd .f64 (fbin .mul .f64 (sineZ f) (sineZ f)) 8 := bd_mul hz hz (by decide) (by decide)
  exact bd_mul hz (bd_sineR' hu) (by decide) (by decide)
theorem bd_sineF' {f : Nat} (hf : Bd .f64 f 1) : Bd .f64 (sineF f) 39 := by
  unfold sineF
  split
  · exact bd_neg (by unfold sineM; simpa [Lit.wf] using fbin_wf .mul .f64 (sineZ f) (sineR (fbin .mul .f64 (sineZ f) (sineZ f)))) (bd_sineM' hf)
  · exact bd_sineM' hf
theorem bd_neg0 {x : Nat} (h : Bd .f64 x 39) : Bd .f64 (neg0 x) 40 := by
  have bz : Bd .f64 0 39 := ⟨false, 0, -1074, by decide +kernel, by decide +kernel⟩
  exact bd_sub bz h (by decide) (by decide)
theorem bd_phaQ {Y : Nat} {s : Bool} {m : Nat} {e : Int} (hd : FloatKind.decode .f64 Y = .number s m e) (hlt : (m : Rat) * two e < two 52) : Bd .f64 (phaQ (fr Y)).1 40 ∧ Bd .f64 (phaQ (fr Y)).2 40 := by
  refine small_any hd hlt (Goal := fun a b => Bd .f64 a 40 ∧ Bd .f64 b 40) ?_ ?_ ?_ ?_ ?_
  · intro R _
    exact ⟨(bd_sineF' R.db).mono (by decide), (bd_sineF' R.gb).mono (by decide)⟩
  · intro R _ _
    exact ⟨bd_neg0 (bd_sineF' R.gb), (bd_sineF' R.db).mono (by decide)⟩
  · intro R _ _ _
    exact ⟨bd_neg0 (bd_sineF' R.db), bd_neg0 (bd_sineF' R.gb)⟩
  · intro R _ _ _ _
    exact ⟨(bd_sineF' R.gb).mono (by decide), bd_neg0 (bd_sineF' R.db)⟩
  · intro R _ _ _ _ _
    exact ⟨(bd_sineF' R.db).mono (by decide), (bd_sineF' R.gb).mono (by decide)⟩
theorem bd_narrow {x : Nat} {B : Int} (h : Bd .f64 x B) (hlo : lowE .f32 ≤ B) (hhi : B ≤ topE .f32) : Bd .f32 (fconv .f64 x .f32) B := by
  have hn := h.num
  obtain ⟨s, m, e, hd, hv⟩ := h
  unfold fconv
  rw [if_neg (by rw [hn]; simp), hd]
  exact encode_bd .f32 s m e B hv hlo hhi
theorem bd_wide {x : Nat} {B : Int} (h : Bd .f32 x B) : Bd .f64 (fconv .f32 x .f64) B := by
  obtain ⟨s, m, e, hd, hv⟩ := h
  obtain ⟨m', e', h1, h2⟩ := widen_val hd
  exact ⟨s, m', e', h1, by rw [h2]; exact hv⟩
theorem phaT_bd {Y : Nat} (hf : isFin .f64 Y = true) : Bd .f32 (phaT Y).1 40 ∧ Bd .f32 (phaT Y).2 40 := by
  obtain ⟨s, m, e, hd⟩ : ∃ s m e, FloatKind.decode .f64 Y = .number s m e := by
    unfold isFin at hf
    cases hd : FloatKind.decode .f64 Y with
    | nan => simp [hd, Ieee.Datum.isNaN] at hf
    | infinity => simp [hd, Ieee.Datum.isInfinity] at hf
    | number s m e => exact ⟨s, m, e, rfl⟩
  rcases small_or_big hd with ⟨hlt, g1, g2, g3⟩ | ⟨hge, g12, g3⟩
  · have hT : phaT Y = (fconv .f64 (phaQ (fr Y)).1 .f32, fconv .f64 (phaQ (fr Y)).2 .f32) := by unfold phaT; rw [hf, g3]; rfl
    rw [hT]
    obtain ⟨b1, b2⟩ := bd_phaQ hd hlt
    exact ⟨bd_narrow b1 (by decide) (by decide), bd_narrow b2 (by decide) (by decide)⟩
  · have hT : phaT Y = (1065353216, 0) := by unfold phaT; rw [hf, g3]; rfl
    rw [hT]
    exact ⟨⟨false, 8388608, -23, by decide +kernel, by decide +kernel⟩, ⟨false, 0, -149, by decide +kernel, by decide +kernel⟩⟩
def powW (a b : Nat) : Nat := fbin .add .f64 (fbin .mul .f64 (fconv .f32 a .f64) (fconv .f32 a .f64)) (fbin .mul .f64 (fconv .f32 b .f64) (fconv .f32 b .f64))
theorem bd_powW {a b : Nat} (ha : Bd .f32 a 41) (hb : Bd .f32 b 41) : Bd .f64 (powW a b) 83 :=
  bd_add (bd_mul (bd_wide ha) (bd_wide ha) (by decide) (by decide)) (bd_mul (bd_wide hb) (bd_wide hb) (by decide) (by decide)) (by decide) (by decide)
theorem run_csub {P : Program} (w : World) (k : FloatKind) (a b c d : Nat) : ∃ s t n, (Op.complexOp .sub k a b c d).run P w = .ok (.complex k (pick k (fbin .sub k a c) s) (pick k (fbin .sub k b d) t)) (w.drewN n) := by
  obtain ⟨s, n, h1⟩ := run_fbin (P := P) w (op := .sub) rfl k a c
  obtain ⟨t, m, h2⟩ := run_fbin (P := P) (w.drewN n) (op := .sub) rfl k b d
  refine ⟨s, t, n + m, ?_⟩
  simp [Op.complexOp, Op.Complex.arith, h1, h2]
section
variable {P : Program} {w : World} {ops : Array Oper} {rest : List Oper} {a : Act} {Q : Exit → Act → World → Prop} {dst : Option Tmp} {ty : TypeId} {ps : String} {af : Array Edge}
/-- '-' on complex numbers. -/
theorem wpL_csub {x y : Operand} {t yt : TypeId}
    (h : ∃ (k : FloatKind) (xr xi yr yi : Nat), a.eval x = .complex k xr xi ∧ a.eval y = .complex k yr yi ∧
      ∀ s u n, wpList P ops Q rest (a.put dst (.complex k (pick k (fbin .sub k xr yr) s) (pick k (fbin .sub k xi yi) u))) (w.drewN n)) :
    wpList P ops Q ({ dst := dst, op := .binOp .sub t x y yt, type := ty, pos := ps, after := af, guard := none } :: rest) a w := by
  obtain ⟨k, xr, xi, yr, yi, hx, hy, hK⟩ := h
  refine wpList_plain rfl fun K' hK' => ?_
  obtain ⟨s, u, n, hrun⟩ := run_csub (P := P) w k xr xi yr yi
  unfold Oper.wp
  have : (binOp .sub t (.complex k xr xi) (.complex k yr yi)) = Op.complexOp .sub k xr xi yr yi := by simp [binOp]
  have hq : eqGuard .sub t x y (.complex k xr xi) (.complex k yr yi) = pure () := rfl
  simp [execOp, hx, hy, this, hq, hrun]
  exact hK' _ _ (hK s u n)
end

/- Products of complex numbers whose parts are small, with -i; opposites. -/
set_option linter.all false

theorem neg32w (x : Nat) (h : x < 4294967296) : (Op.negFloat .f32 x) % 2147483648 = x % 2147483648 ∧ (Op.negFloat .f32 x) / 2147483648 % 2 = 1 - x / 2147483648 % 2 ∧ Op.negFloat .f32 x < 4294967296 := by
  have e : Op.negFloat .f32 x = x ^^^ 2 ^ 31 := rfl
  by_cases hx : x < 2 ^ 31
  · rw [e, xor_low 31 x hx]
    simp only [Nat.reducePow] at hx ⊢
    omega
  · obtain ⟨r, hr⟩ : ∃ r, x = 2 ^ 31 + r := ⟨x - 2 ^ 31, by omega⟩
    have hr' : r < 2 ^ 31 := by simp only [Nat.reducePow] at *; omega
    rw [e, hr, xor_high 31 r hr']
    simp only [Nat.reducePow] at *
    omega
theorem read_neg32 (x : Nat) (h : x < 4294967296) : Ieee.single.read (Op.negFloat .f32 x) = (Ieee.single.read x).opposite := by
  obtain ⟨h1, h2, _⟩ := neg32w x h
  have hsw : Ieee.single.signWeight = 2147483648 := rfl
  have hb : (1 - x / 2147483648 % 2 == 1) = !(x / 2147483648 % 2 == 1) := by
    rcases (by omega : x / 2147483648 % 2 = 0 ∨ x / 2147483648 % 2 = 1) with h | h <;> rw [h] <;> rfl
  unfold Ieee.Format.read
  rw [hsw, h1, h2]
  dsimp only
  rw [hb]
  by_cases c1 : x % 2147483648 < Ieee.single.binade
  · rw [if_pos c1, if_pos c1]; rfl
  · rw [if_neg c1, if_neg c1]
    by_cases c2 : x % 2147483648 < Ieee.single.infRung
    · rw [if_pos c2, if_pos c2]; rfl
    · rw [if_neg c2, if_neg c2]
      by_cases c3 : x % 2147483648 = Ieee.single.infRung
      · rw [if_pos c3, if_pos c3]; rfl
      · rw [if_neg c3, if_neg c3]; rfl
theorem bd_neg32 {x : Nat} {B : Int} (hx : x < 4294967296) (h : Bd .f32 x B) : Bd .f32 (Op.negFloat .f32 x) B := by
  obtain ⟨s, m, e, hd, hv⟩ := h
  refine ⟨!s, m, e, ?_, hv⟩
  have hd' : Ieee.single.read x = _ := hd
  show Ieee.single.read _ = _
  rw [read_neg32 x hx, hd']; rfl
/-- Both parts of the product of a + b i and c + d i, in 64 bits, and narrowed. -/
def wd (x : Nat) : Nat := fconv .f32 x .f64
def cxR (a b c d : Nat) : Nat := fbin .sub .f64 (fbin .mul .f64 (wd a) (wd c)) (fbin .mul .f64 (wd b) (wd d))
def cxI (a b c d : Nat) : Nat := fbin .add .f64 (fbin .mul .f64 (wd a) (wd d)) (fbin .mul .f64 (wd b) (wd c))
theorem bd_cxR {a b c d : Nat} (ha : Bd .f32 a 40) (hb : Bd .f32 b 40) (hc : Bd .f32 c 1) (hd : Bd .f32 d 1) : Bd .f64 (cxR a b c d) 42 :=
  bd_sub (bd_mul (bd_wide ha) (bd_wide hc) (by decide) (by decide)) (bd_mul (bd_wide hb) (bd_wide hd) (by decide) (by decide)) (by decide) (by decide)
theorem bd_cxI {a b c d : Nat} (ha : Bd .f32 a 40) (hb : Bd .f32 b 40) (hc : Bd .f32 c 1) (hd : Bd .f32 d 1) : Bd .f64 (cxI a b c d) 42 :=
  bd_add (bd_mul (bd_wide ha) (bd_wide hd) (by decide) (by decide)) (bd_mul (bd_wide hb) (bd_wide hc) (by decide) (by decide)) (by decide) (by decide)
def downI : Nat := 3212836864
theorem bd_down : Bd .f32 downI 1 := ⟨true, 8388608, -23, by decide +kernel, by decide +kernel⟩
theorem bd_nil : Bd .f32 0 1 := ⟨false, 0, -149, by decide +kernel, by decide +kernel⟩
def bkR (a b : Nat) : Nat := fconv .f64 (cxR a b 0 downI) .f32
def bkI (a b : Nat) : Nat := fconv .f64 (cxI a b 0 downI) .f32
set_option maxRecDepth 100000 in
set_option maxHeartbeats 1600000 in
theorem implBack_any (a b : Nat) (ha : Bd .f32 a 40) (hb : Bd .f32 b 40) (w : World) : Calls Try.prog 76 #[.complex .f32 a b, .complex .f32 0 3212836864] w (RetC (bkR a b) (bkI a b) w) := by
  have hpl := fun op => fbin_pick_l op .f64
  have hpr := fun op => fbin_pick_r op .f64
  have hcp := fun X s => fconv_pick .f64 X s .f32
  have O1 := Lib.hid (fun s => convOk_pick (t := s) (convOk_narrow (bd_cxR ha hb bd_nil bd_down) (by decide)))
  have O2 := Lib.hid (fun s => convOk_pick (t := s) (convOk_narrow (bd_cxI ha hb bd_nil bd_down) (by decide)))
  clear ha hb
  go_enter Try.func76, Try.ntmps76
  go_wp2_with (first | ((with_reducible refine wpL_fbin ?_); refine ⟨_, _, _, rfl, rfl, rfl, fun s n => ?_⟩) | ((with_reducible refine wpL_fconv ?_); refine ⟨_, _, _, rfl, Option.isSome_iff_exists.2 ⟨_, Try.underlying22⟩, Try.underlying76, FloatKind.noConfusion, convOk_widen _, fun s n => ?_⟩) | ((with_reducible refine wpL_fconv ?_); refine ⟨_, _, _, rfl, Option.isSome_iff_exists.2 ⟨_, Try.underlying76⟩, Try.underlying22, FloatKind.noConfusion, O1.out _, fun s n => ?_⟩) | ((with_reducible refine wpL_fconv ?_); refine ⟨_, _, _, rfl, Option.isSome_iff_exists.2 ⟨_, Try.underlying76⟩, Try.underlying22, FloatKind.noConfusion, O2.out _, fun s n => ?_⟩) | go_in)
  go_ret
  exact ⟨_, _, _, rfl, rfl⟩
set_option maxRecDepth 100000 in
set_option maxHeartbeats 1600000 in
theorem specBack_any (a b : Nat) (ha : Bd .f32 a 40) (hb : Bd .f32 b 40) (w : World) : Calls Try.prog 149 #[.complex .f32 a b, .complex .f32 0 3212836864] w (RetC (bkR a b) (bkI a b) w) := by
  have hpl := fun op => fbin_pick_l op .f64
  have hpr := fun op => fbin_pick_r op .f64
  have hcp := fun X s => fconv_pick .f64 X s .f32
  have O1 := Lib.hid (fun s => convOk_pick (t := s) (convOk_narrow (bd_cxR ha hb bd_nil bd_down) (by decide)))
  have O2 := Lib.hid (fun s => convOk_pick (t := s) (convOk_narrow (bd_cxI ha hb bd_nil bd_down) (by decide)))
  clear ha hb
  go_enter Try.func149, Try.ntmps149
  go_wp2_with (first | ((with_reducible refine wpL_fbin ?_); refine ⟨_, _, _, rfl, rfl, rfl, fun s n => ?_⟩) | ((with_reducible refine wpL_fconv ?_); refine ⟨_, _, _, rfl, Option.isSome_iff_exists.2 ⟨_, Try.underlying22⟩, Try.underlying76, FloatKind.noConfusion, convOk_widen _, fun s n => ?_⟩) | ((with_reducible refine wpL_fconv ?_); refine ⟨_, _, _, rfl, Option.isSome_iff_exists.2 ⟨_, Try.underlying76⟩, Try.underlying22, FloatKind.noConfusion, O1.out _, fun s n => ?_⟩) | ((with_reducible refine wpL_fconv ?_); refine ⟨_, _, _, rfl, Option.isSome_iff_exists.2 ⟨_, Try.underlying76⟩, Try.underlying22, FloatKind.noConfusion, O2.out _, fun s n => ?_⟩) | go_in)
  go_ret
  exact ⟨_, _, _, rfl, rfl⟩
set_option maxHeartbeats 800000 in
theorem implConj_any (a b : Nat) (w : World) : Calls Try.prog 77 #[.complex .f32 a b] w fun e w' => e = .returned (.complex .f32 a (Op.negFloat .f32 b)) ∧ w' = w := by
  go_enter Try.func77, Try.ntmps77
  go_wp2_with (first | ((with_reducible refine wpL_fneg ?_); refine ⟨_, _, rfl, ?_⟩))
  go_ret
  exact ⟨rfl, rfl⟩
set_option maxHeartbeats 800000 in
theorem specConj_any (a b : Nat) (w : World) : Calls Try.prog 150 #[.complex .f32 a b] w fun e w' => e = .returned (.complex .f32 a (Op.negFloat .f32 b)) ∧ w' = w := by
  go_enter Try.func150, Try.ntmps150
  go_wp2_with (first | ((with_reducible refine wpL_fneg ?_); refine ⟨_, _, rfl, ?_⟩))
  go_ret
  exact ⟨rfl, rfl⟩

end Go.Proofs.Ytmpcalpapkedhaa
