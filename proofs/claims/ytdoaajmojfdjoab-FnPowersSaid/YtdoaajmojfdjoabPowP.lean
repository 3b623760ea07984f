/- Powers of e at eighths from -8 to 8, as a function of words, and what they and their logarithms are near to: by reckoning. -/
import Derived.Test.YtdoaajmojfdjoabLogI
namespace Go.Proofs.Ytdoaajmojfdjoab
open Go Go.ChangeShapes Go.WideShapes Go.ChangeAt Go.RowKit

def xW (i : Int) : Nat := fbin .quo .f32 (floatOfInt .f32 i) 1090519040
def pR (t : Nat) : Nat → Nat
  | 0 => 4607182418800017408
  | k + 1 => fbin .add .f64 4607182418800017408 (fbin .quo .f64 (fbin .mul .f64 t (pR t k)) (floatOfInt .f64 (12 - (k : Int))))
def sqP (p : Nat) : Nat → Nat
  | 0 => p
  | k + 1 => fbin .mul .f64 (sqP p k) (sqP p k)
def expT (x : Nat) : Nat := fbin .quo .f64 (fconv .f32 x .f64) 4643211215818981376
def expWd (x : Nat) : Nat := sqP (pR (expT x) 12) 8
def expV (x : Nat) : Nat := fconv .f64 (expWd x) .f32
def okX (x : Nat) : Bool := !(FloatKind.f32.format.order x 1128792064 == some .gt) && !(FloatKind.f32.format.order x 3276275712 == some .lt) && !isNaN .f32 x && !isNaN .f64 (expWd x) && !(FloatKind.decode .f32 (FloatKind.encode .f32 (FloatKind.decode .f64 (expWd x)))).isInfinity
/-- The powers, as words: from e to the power of -8 on, by eighths. -/
def eTab : List Nat := [967827720, 969362444, 971101513, 973072137, 974191837, 975457003, 976890623, 978515128, 980355933, 981954487, 983136307, 984475485, 985992972, 987712511,
  989661003, 990862339, 992113296, 993530815, 995137075, 996957207, 998632019, 999800566, 1001124704, 1002625149, 1004325375, 1006251984, 1007534039, 1008770946,
  1010172546, 1011760767, 1013560457, 1015310670, 1016466094, 1017775360, 1019258954, 1020940085, 1022845057, 1024206924, 1025429940, 1026815799, 1028386182,
  1030165660, 1031990428, 1033132876, 1034427438, 1035894369, 1037556620, 1039440198, 1040880981, 1042090262, 1043460556, 1045013303, 1046772796, 1048671281,
  1049800898, 1051080921, 1052531378, 1054174960, 1056037383, 1057556197, 1058751896, 1060106801, 1061642109, 1063381841, 1065353216, 1066470146, 1067735794,
  1069169961, 1070795084, 1072636591, 1074232558, 1075414828, 1076754516, 1078272582, 1079992775, 1081942010, 1083140607, 1084392041, 1085810101, 1087416973,
  1089237798, 1090910051, 1092079044, 1093403686, 1094904703, 1096605577, 1098532920, 1099812267, 1101049646, 1102451780, 1104040606, 1105840981, 1107588665,
  1108744529, 1110054295, 1111538453, 1113220225, 1115125923, 1116485113, 1117708595, 1119094981, 1120665963, 1122446119, 1124268386, 1125411269, 1126706325,
  1128173815, 1129836699, 1131720994, 1133159130, 1134368872, 1135739688, 1137293027, 1139053190, 1140949202, 1142079249, 1143359761, 1144810770, 1146454979,
  1148318112, 1149834307, 1151030462, 1152385883, 1153921776, 1155662171, 1157631101, 1158748457, 1160014587, 1161449300]
def eT (v : Nat) : Nat := eTab.getD v 0
theorem okTab : ∀ v : Nat, v < 129 → okX (xW ((v : Int) - 64)) = true ∧ expV (xW ((v : Int) - 64)) = eT v := by decide +kernel
theorem ok0 : okX 0 = true := by decide +kernel
theorem addTab : ∀ v : Nat, v < 65 → ∀ u : Nat, u < 65 → fbin .add .f32 (xW ((v : Int) - 32)) (xW ((u : Int) - 32)) = xW (((v + u : Nat) : Int) - 64) := by decide +kernel
def find1 (Y : Nat) : Nat → Nat → Nat
  | 0, j => j
  | f + 1, j => if ge64 (hv Y j) c15W = true then find1 Y f (j + 1) else j
def find2 (Z : Nat) : Nat → Nat → Nat
  | 0, j => j
  | f + 1, j => if lt64 (db Z j) c75W = true then find2 Z f (j + 1) else j
instance (Y j : Nat) : Decidable (First1 Y j) := inferInstanceAs (Decidable (_ ∧ ∀ k, k < j → _))
instance (Y j : Nat) : Decidable (First2 Y j) := inferInstanceAs (Decidable (_ ∧ ∀ k, k < j → _))
def jOf (a : Nat) : Nat := find1 (fconv .f32 a .f64) 20 0
def iOf (a : Nat) : Nat := find2 (hv (fconv .f32 a .f64) (jOf a)) 20 0
def logV (a : Nat) : Nat := fconv .f64 (logQ (db (hv (fconv .f32 a .f64) (jOf a)) (iOf a)) ((jOf a : Int) - iOf a)) .f32
def posB (a : Nat) : Bool := match FloatKind.decode .f32 a with
  | .number s m _ => !s && decide (m ≠ 0)
  | _ => false
theorem posB_fin {a : Nat} (h : posB a = true) : PosFin a := by
  unfold posB at h
  cases hd : FloatKind.decode .f32 a with
  | nan => rw [hd] at h; cases h
  | infinity => rw [hd] at h; cases h
  | number s m e =>
    rw [hd] at h
    simp only [Bool.and_eq_true, Bool.not_eq_true', decide_eq_true_eq] at h
    obtain ⟨rfl, hm⟩ := h
    exact ⟨m, e, hd, hm⟩
def logOk (a : Nat) : Prop := posB a = true ∧ First1 (fconv .f32 a .f64) (jOf a) ∧ First2 (hv (fconv .f32 a .f64) (jOf a)) (iOf a)
instance (a : Nat) : Decidable (logOk a) := inferInstanceAs (Decidable (_ ∧ _ ∧ _))
theorem logV_ans {a : Nat} (h : logOk a) : LogAns a (logV a) := .inr (.inr (.inr ⟨posB_fin h.1, _, _, h.2.1, h.2.2, rfl⟩))
def gapW (a b : Nat) : Nat := if (FloatKind.f64.format.order a b == some .lt) = true then fbin .sub .f64 b a else fbin .sub .f64 a b
theorem logTab : ∀ v : Nat, v < 65 → logOk (eT (v + 32)) ∧ (FloatKind.f64.format.order (gapW (fconv .f32 (logV (eT (v + 32))) .f64) (fconv .f32 (xW ((v : Int) - 32)) .f64)) 4562254508917369340 == some .lt) = true ∧ (FloatKind.f32.format.order (eT (v + 32)) 0 == some .gt) = true := by decide +kernel
theorem exp0 : (FloatKind.f32.format.order (expV 0) 1065353216 == some .eq) = true := by decide +kernel
theorem log1 : logOk 1065353216 ∧ (FloatKind.f32.format.order (logV 1065353216) 0 == some .eq) = true := by decide +kernel
def mulGap (A B C : Nat) : Bool := FloatKind.f64.format.order (gapW (fbin .mul .f64 (fconv .f32 A .f64) (fconv .f32 B .f64)) (fconv .f32 C .f64)) (fbin .mul .f64 4562254508917369340 (fconv .f32 C .f64)) == some .lt
end Go.Proofs.Ytdoaajmojfdjoab
