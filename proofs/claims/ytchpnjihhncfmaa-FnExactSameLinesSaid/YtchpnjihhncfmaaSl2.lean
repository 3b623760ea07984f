/- Whether two lines are the same: as the program asks it. -/
import Derived.Test.YtchpnjihhncfmaaSl1
import Derived.Deep.RegionWith
namespace Go.Proofs.Ytchpnjihhncfmaa
open Go Go.ChangeShapes Go.WideShapes Go.ChangeAt Go.RowKit

def BitsI (A B C D : Int) (w : World) (e : Ending) (w' : World) : Prop := e = .returned (.agg #[.int .i64 A, .int .i64 B, .int .i64 C, .int .i64 D]) ∧ Below w.heap.size w w'
set_option maxRecDepth 100000 in
set_option maxHeartbeats 6400000 in
theorem implSl1_in (a b c : Nat) (d : Int) (a' b' c' : Nat) (d' : Int) (A B C D A' B' C' D' : Int) (R : Bool) (w : World)
    (H1 : Hid (∀ w, Calls Try.prog 106 #[.agg #[.float .f32 a, .float .f32 b, .float .f32 c, .int .i64 d]] w (BitsI A B C D w)))
    (H2 : Hid (∀ w, Calls Try.prog 106 #[.agg #[.float .f32 a', .float .f32 b', .float .f32 c', .int .i64 d']] w (BitsI A' B' C' D' w)))
    (HR : Hid (R = (decide (A = A') && (decide (B = B') && (decide (C = C') && decide (D = D')))))) :
    Calls Try.prog 105 #[.agg #[.float .f32 a, .float .f32 b, .float .f32 c, .int .i64 d], .agg #[.float .f32 a', .float .f32 b', .float .f32 c', .int .i64 d']] w fun e w' => e = .returned (.bool R) ∧ Below w.heap.size w w' := by
  have HP := (lnBox_alloc w a b c d 105).below ((Below.refl _ _).alloc (Nat.le_refl _) (.cells #[.float .f32 a', .float .f32 b', .float .f32 c', .int .i64 d'] 105))
  have HQ := lnBox_alloc (w.alloc (.cells #[.float .f32 a, .float .f32 b, .float .f32 c, .int .i64 d] 105)) a' b' c' d' 105
  obtain ⟨W, hW⟩ : ∃ W, W = (w.alloc (.cells #[.float .f32 a, .float .f32 b, .float .f32 c, .int .i64 d] 105)).alloc (.cells #[.float .f32 a', .float .f32 b', .float .f32 c', .int .i64 d'] 105) := ⟨_, rfl⟩
  have HB : Below w.heap.size w W := by rw [hW]; exact ((Below.refl _ _).alloc (Nat.le_refl _) _).alloc (by simp) _
  have hcs : (A ≠ A' ∧ R = false) ∨ (A = A' ∧ B ≠ B' ∧ R = false) ∨ (A = A' ∧ B = B' ∧ C ≠ C' ∧ R = false) ∨ (A = A' ∧ B = B' ∧ C = C' ∧ D ≠ D' ∧ R = false) ∨ (A = A' ∧ B = B' ∧ C = C' ∧ D = D' ∧ R = true) := by
    have h := HR.out
    by_cases h1 : A = A' <;> by_cases h2 : B = B' <;> by_cases h3 : C = C' <;> by_cases h4 : D = D' <;> simp [h1, h2, h3, h4] at h ⊢ <;> simp [h]
  clear HR
  have e1 : (w.alloc (.cells #[.float .f32 a, .float .f32 b, .float .f32 c, .int .i64 d] 105)).heap.size = w.heap.size + 1 := by simp
  go_enter Try.func105, Try.ntmps105
  go_wp2_with fail
  rw [← hW] at HP HQ ⊢
  clear hW
  rw [e1] at HQ
  have HBd : Below w.heap.size w W.drew := Below.drewN HB 1
  have hQd : LnBox W.drew (w.heap.size + 1) a' b' c' d' := HQ
  have hsd := HBd.size
  obtain ⟨p0, p1, p2, p3⟩ := HP
  obtain ⟨q0, q1, q2, q3⟩ := HQ
  rcases hcs with ⟨h1, rfl⟩ | ⟨h1, h2, rfl⟩ | ⟨h1, h2, h3, rfl⟩ | ⟨h1, h2, h3, h4, rfl⟩ | ⟨h1, h2, h3, h4, rfl⟩
  all_goals go_region_with (first
    | (go_at_call_of 106 (Value.agg #[.float .f32 a, .float .f32 b, .float .f32 c, .int .i64 d]); (with_reducible refine (H1.out _).mono ?_); rintro e0 w5 ⟨rfl, B0⟩; obtain ⟨s0, s1, s2, s3⟩ := LnBox.below hQd B0; have HC := HBd.trans (B0.mono hsd); clear B0)
    | (go_at_call_of 106 (Value.agg #[.float .f32 a', .float .f32 b', .float .f32 c', .int .i64 d']); (with_reducible refine (H2.out _).mono ?_); rintro e0 w6 ⟨rfl, B0⟩; have HD := HC.trans (B0.mono (by exact HC.size)); clear B0))
  all_goals go_wp2
  all_goals go_ret
  all_goals exact ⟨rfl, HD⟩
def sameLn (l m : Ln) : Bool := decide (canon .f32 l.p = canon .f32 m.p) && (decide (canon .f32 l.h = canon .f32 m.h) && (decide (canon .f32 l.d = canon .f32 m.d) && decide (l.k = m.k)))
theorem decC (x y : Nat) : decide ((canon .f32 x : Int) = (canon .f32 y : Int)) = decide (canon .f32 x = canon .f32 y) := decide_eq_decide.2 ⟨fun h => by exact_mod_cast h, fun h => by rw [h]⟩
theorem implSl1_any (l m : Ln) (hl : l.wf) (hm : m.wf) (R : Bool) (hR : Hid (R = sameLn l m)) (w : World) :
    Calls Try.prog 105 #[.agg #[.float .f32 l.p, .float .f32 l.h, .float .f32 l.d, .int .i64 l.k], .agg #[.float .f32 m.p, .float .f32 m.h, .float .f32 m.d, .int .i64 m.k]] w fun e w' => e = .returned (.bool R) ∧ Below w.heap.size w w' :=
  implSl1_in _ _ _ _ _ _ _ _ _ _ _ _ _ _ _ _ R w (Lib.hid fun w => bitsLn_any _ _ _ _ ⟨hl.1, hl.2.1, hl.2.2.1⟩ w) (Lib.hid fun w => bitsLn_any _ _ _ _ ⟨hm.1, hm.2.1, hm.2.2.1⟩ w)
    (Lib.hid (by rw [hR.out, sameLn, decC, decC, decC]))
end Go.Proofs.Ytchpnjihhncfmaa
