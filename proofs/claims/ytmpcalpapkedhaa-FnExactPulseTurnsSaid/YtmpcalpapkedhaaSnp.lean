
/- The lines of a scan: what they come to. -/
import Derived.Test.YtmpcalpapkedhaaPhaA
import Derived.Test.YtmpcalpapkedhaaBin
import Derived.Test.YtmpcalpapkedhaaCxo
import Derived.Test.YtmpcalpapkedhaaArr
namespace Go.Proofs.Ytmpcalpapkedhaa
set_option linter.all false
open Go Go.ChangeShapes Go.WideShapes Go.ChangeAt Go.RowKit

theorem rdC_own' {w : World} {B e n cap : Nat} {xa : Option Addr} {X Y : Nat → Nat} (h : w.ownsRow B e 1 (.slice xa n cap) n (rowC X Y n)) : RdC w xa n X Y := by
  obtain ⟨xa', cap', hv, _, _, hr⟩ := rdC_of_own h
  cases hv
  exact hr
/-- What is told of a list of complex numbers, at one length. -/
def RetU (p : Nat) (R I : Nat → Nat) (ok : Bool) (w : World) (e : Ending) (w' : World) : Prop := ∃ v A B, e = .returned (.tuple #[v, .bool ok]) ∧ w'.ownsRow w.heap.size 98 1 v p (rowC A B p) ∧ Like A R p ∧ Like B I p ∧ Below w.heap.size w w'
theorem RetU.no {R I : Nat → Nat} {w w' : World} (hb : Below w.heap.size w w') : RetU 0 R I false w (.returned (.tuple #[.slice none 0 0, .bool false])) w' :=
  ⟨_, fun _ => 0, fun _ => 0, rfl, World.ownsRow_nil _ _ _ _, fun _ h => absurd h (Nat.not_lt_zero _), fun _ h => absurd h (Nat.not_lt_zero _), hb⟩
/-- The turns of line k of n at place i, without its sign. -/
def snQ (n k i : Nat) : Nat := fbin .quo .f64 (floatOfInt .f64 ((k : Int) * (i : Int))) (floatOfInt .f64 (n : Int))
def snA (n k i : Nat) : Nat × Nat := phaT (Op.negFloat .f64 (snQ n k i))
def snR (X : Nat → Nat) (n k : Nat) : Nat → Nat
  | 0 => 0
  | i + 1 => fbin .add .f32 (snR X n k i) (fbin .mul .f32 (snA n k i).1 (X i))
def snI (X : Nat → Nat) (n k : Nat) : Nat → Nat
  | 0 => 0
  | i + 1 => fbin .add .f32 (snI X n k i) (fbin .mul .f32 (snA n k i).2 (X i))
def snU (X : Nat → Nat) (n k : Nat) : Nat := snR X n k n
def snV (X : Nat → Nat) (n k : Nat) : Nat := snI X n k n
theorem bd_small : ∀ n : Fin 2049, Bd .f64 (floatOfInt .f64 ((n.val : Nat) : Int)) 12 := by
  intro n
  refine encode_bd .f64 _ _ _ _ ?_ (by decide) (by decide)
  rw [show two 0 = 1 by decide +kernel, show two 12 = ((4096 : Nat) : Rat) by decide +kernel, Rat.mul_one]
  exact_mod_cast (by omega : (n.val : Int).natAbs ≤ 4096)
def lbB (x : Nat) : Bool := match FloatKind.decode .f64 x with | .number _ m e => decide (two 1 ≤ (m : Rat) * two e) | _ => false
theorem lb_of {x : Nat} (h : lbB x = true) : Lb .f64 x 1 := by
  unfold lbB at h
  split at h
  · rename_i s m e hd
    exact ⟨s, m, e, hd, of_decide_eq_true h⟩
  · cases h
theorem lb_small : ∀ n : Fin 63, lbB (floatOfInt .f64 ((n.val + 2 : Nat) : Int)) = true := by decide +kernel
theorem snQ_bd {n k i : Nat} (hn : 2 ≤ n) (hn2 : n ≤ 64) (hk : k ≤ 32) (hi : i ≤ 64) : Bd .f64 (snQ n k i) 12 := by
  have h1 : k * i ≤ 2048 := Nat.mul_le_mul hk hi
  have hb := bd_small ⟨k * i, by omega⟩
  have hl := lb_of (lb_small ⟨n - 2, by omega⟩)
  have e : (n - 2 + 2 : Nat) = n := by omega
  rw [show ((⟨n - 2, by omega⟩ : Fin 63).val + 2 : Nat) = n from e] at hl
  have := bd_quo hb hl (by decide) (by decide)
  simp only [Int.natCast_mul] at this
  exact this
theorem snQ_pick {n k i : Nat} (hn : 2 ≤ n) (hn2 : n ≤ 64) (hk : k ≤ 32) (hi : i ≤ 64) (s : Nat) : pick .f64 (snQ n k i) s = snQ n k i := pick_num (snQ_bd hn hn2 hk hi).num s
theorem snN_lt (n k i : Nat) : Op.negFloat .f64 (snQ n k i) < 18446744073709551616 := by
  have h : snQ n k i < 18446744073709551616 := by
    unfold snQ
    simpa [Lit.wf] using fbin_wf .quo .f64 (floatOfInt .f64 ((k : Int) * (i : Int))) (floatOfInt .f64 (n : Int))
  have e : Op.negFloat .f64 (snQ n k i) = (snQ n k i) ^^^ 2 ^ 63 := rfl
  rw [e]
  exact Nat.xor_lt_two_pow (n := 64) h (by decide)
theorem ki_wrap {k i : Nat} (hk : k ≤ 32) (hi : i ≤ 64) : IntKind.i64.wrap ((k : Int) * (i : Int)) = (k : Int) * (i : Int) := by
  have h1 : k * i ≤ 2048 := Nat.mul_le_mul hk hi
  have h2 : ((k * i : Nat) : Int) ≤ 2048 := by omega
  rw [← Int.natCast_mul]
  generalize k * i = p at *
  rw [IntKind.wrap_i64]
  first | omega | (unfold wrap64; omega) | (simp; omega)
set_option maxHeartbeats 800000 in
theorem implScale_any (a b x : Nat) (w : World) : Calls Try.prog 75 #[.complex .f32 a b, .float .f32 x] w (RetC (fbin .mul .f32 a x) (fbin .mul .f32 b x) w) := by
  have hpl := fun op => fbin_pick_l op .f32
  have hpr := fun op => fbin_pick_r op .f32
  go_enter Try.func75, Try.ntmps75
  go_wp2_with (first | ((with_reducible refine wpL_fbin ?_); refine ⟨_, _, _, rfl, rfl, rfl, fun s n => ?_⟩))
  go_ret
  exact ⟨_, _, _, rfl, rfl⟩
set_option maxHeartbeats 800000 in
theorem specScale_any (a b x : Nat) (w : World) : Calls Try.prog 148 #[.complex .f32 a b, .float .f32 x] w (RetC (fbin .mul .f32 a x) (fbin .mul .f32 b x) w) := by
  have hpl := fun op => fbin_pick_l op .f32
  have hpr := fun op => fbin_pick_r op .f32
  go_enter Try.func148, Try.ntmps148
  go_wp2_with (first | ((with_reducible refine wpL_fbin ?_); refine ⟨_, _, _, rfl, rfl, rfl, fun s n => ?_⟩))
  go_ret
  exact ⟨_, _, _, rfl, rfl⟩
end Go.Proofs.Ytmpcalpapkedhaa
