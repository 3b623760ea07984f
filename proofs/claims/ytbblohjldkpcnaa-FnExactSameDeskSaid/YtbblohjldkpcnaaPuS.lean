
/- Of any two pulses the program says that they are the same just where the model does: for all arguments. -/
import Derived.Test.YtbblohjldkpcnaaPul
import Derived.Deep.RegionHeld3
namespace Go.Proofs.Ytbblohjldkpcnaa
open Go Go.ChangeShapes Go.WideShapes Go.ChangeAt Go.RowKit

theorem rd_four' (w : World) (a b c d : Nat) (t : TypeId) {g : Nat} (h : g = w.heap.size) : Rd (w.alloc (.cells #[.float .f32 a, .float .f32 b, .float .f32 c, .float .f32 d] t)) (some ⟨g, 0, none⟩) 4 (four a b c d) := by
  rw [h]
  exact rd_four w a b c d t
def samePul (a b c d a' b' c' d' : Nat) : Bool := sameL (four a b c d) 4 (four a' b' c' d') 4
set_option maxRecDepth 100000 in
set_option maxHeartbeats 1600000 in
theorem specSP_any (a b c d a' b' c' d' : Nat) (h : a < 4294967296 ∧ b < 4294967296 ∧ c < 4294967296 ∧ d < 4294967296) (h' : a' < 4294967296 ∧ b' < 4294967296 ∧ c' < 4294967296 ∧ d' < 4294967296) (w : World) :
    Calls Try.prog 34 #[.agg #[.float .f32 a, .float .f32 b, .float .f32 c, .float .f32 d], .agg #[.float .f32 a', .float .f32 b', .float .f32 c', .float .f32 d']] w fun e w' => e = .returned (.bool (samePul a b c d a' b' c' d')) ∧ Below w.heap.size w w' := by
  have hw := wf_four h.1 h.2.1 h.2.2.1 h.2.2.2
  have hw' := wf_four h'.1 h'.2.1 h'.2.2.1 h'.2.2.2
  clear h h'
  go_enter Try.func34, Try.ntmps34
  go_wp2_with fail
  refine (sameAll_any _ _ 4 4 _ _ (four a b c d) (four a' b' c' d') _ (by exact (rd_four' _ _ _ _ _ _ (by simp)).alloc _) (by exact rd_four' _ _ _ _ _ _ (by simp)) hw hw' (by omega) (by omega)).mono ?_
  rintro e w' ⟨rfl, q, rfl⟩
  go_wp2
  go_ret
  refine ⟨rfl, ?_⟩
  (repeat (first | with_reducible exact Below.refl _ _ | with_reducible refine Below.drewN ?_ _ | with_reducible refine Below.setCell ?_ (by simp; try omega) _ | with_reducible refine Below.alloc ?_ (by simp; try omega) _))
theorem canon_int (x y : Nat) : ((canon .f32 x : Int) == (canon .f32 y : Int)) = (canon .f32 x == canon .f32 y) := by
  rw [Bool.eq_iff_iff]; simp; exact ⟨fun h => by exact_mod_cast h, fun h => by rw [h]⟩
set_option maxRecDepth 100000 in
theorem samePul_eq (a b c d a' b' c' d' : Nat) : samePul a b c d a' b' c' d' = ((canon .f32 a == canon .f32 a') && ((canon .f32 b == canon .f32 b') && ((canon .f32 c == canon .f32 c') && (canon .f32 d == canon .f32 d')))) := by
  simp [samePul, sameL, four, List.range_succ]
theorem Box4.a {w : World} {b x y z u : Nat} (h : Box4 w b x y z u) : w.cell? ⟨b, 0, none⟩ = some (.float .f32 x) := h.1
theorem Box4.b {w : World} {b x y z u : Nat} (h : Box4 w b x y z u) : w.cell? ⟨b, 1, none⟩ = some (.float .f32 y) := h.2.1
theorem Box4.c {w : World} {b x y z u : Nat} (h : Box4 w b x y z u) : w.cell? ⟨b, 2, none⟩ = some (.float .f32 z) := h.2.2.1
theorem Box4.d {w : World} {b x y z u : Nat} (h : Box4 w b x y z u) : w.cell? ⟨b, 3, none⟩ = some (.float .f32 u) := h.2.2.2
def BitsPul (a b c d : Nat) (w : World) (e : Ending) (w' : World) : Prop := e = .returned (.agg #[.int .i64 (canon .f32 a), .int .i64 (canon .f32 b), .int .i64 (canon .f32 c), .int .i64 (canon .f32 d)]) ∧ Below w.heap.size w w'
set_option maxRecDepth 100000 in
set_option maxHeartbeats 3200000 in
theorem bitsPul_any (a b c d : Nat) (h : a < 4294967296 ∧ b < 4294967296 ∧ c < 4294967296 ∧ d < 4294967296) (w : World) :
    Calls Try.prog 49 #[.agg #[.float .f32 a, .float .f32 b, .float .f32 c, .float .f32 d]] w (BitsPul a b c d w) := by
  have HA := Lib.hid (fun w => BitsOf_any a w h.1)
  have HB := Lib.hid (fun w => BitsOf_any b w h.2.1)
  have HC := Lib.hid (fun w => BitsOf_any c w h.2.2.1)
  have HD := Lib.hid (fun w => BitsOf_any d w h.2.2.2)
  clear h
  have hst := fun (a : Addr) (n : Int) (m : Mode) (w : World) => run_store_int (P := Try.prog) (a := a) (m := m) (w := w) .i64 n
  go_enter Try.func49, Try.ntmps49
  go_wp2_with fail
  go_region_held3 (fun w' => w'.cell? ⟨w.heap.size, 0, none⟩ = some (.float .f32 a) ∧ w'.cell? ⟨w.heap.size, 1, none⟩ = some (.float .f32 b) ∧ w'.cell? ⟨w.heap.size, 2, none⟩ = some (.float .f32 c) ∧ w'.cell? ⟨w.heap.size, 3, none⟩ = some (.float .f32 d)) (go_keep)
    (first | (go_at_call 50; (with_reducible refine (HA.out _).mono ?_); rintro e w' ⟨rfl, q, rfl⟩) | (go_at_call 50; (with_reducible refine (HB.out _).mono ?_); rintro e w' ⟨rfl, q, rfl⟩) | (go_at_call 50; (with_reducible refine (HC.out _).mono ?_); rintro e w' ⟨rfl, q, rfl⟩) | (go_at_call 50; (with_reducible refine (HD.out _).mono ?_); rintro e w' ⟨rfl, q, rfl⟩))
  all_goals go_wp2
  all_goals exact bodyPost_ret (v := .agg #[.int .i64 (canon .f32 a), .int .i64 (canon .f32 b), .int .i64 (canon .f32 c), .int .i64 (canon .f32 d)]) (by simp [results, Try.results49, go_sem]) rfl ⟨rfl, by repeat (first | with_reducible exact Below.refl _ _ | with_reducible refine Below.drewN ?_ _ | with_reducible refine Below.setCell ?_ (by simp; try omega) _ | with_reducible refine Below.alloc ?_ (by simp; try omega) _)⟩
def BitsI (A B C D : Int) (w : World) (e : Ending) (w' : World) : Prop := e = .returned (.agg #[.int .i64 A, .int .i64 B, .int .i64 C, .int .i64 D]) ∧ Below w.heap.size w w'
set_option maxRecDepth 100000 in
set_option maxHeartbeats 6400000 in
theorem implSP_in (a b c d a' b' c' d' : Nat) (A B C D A' B' C' D' : Int) (R : Bool) (w : World)
    (H1 : Hid (∀ w, Calls Try.prog 49 #[.agg #[.float .f32 a, .float .f32 b, .float .f32 c, .float .f32 d]] w (BitsI A B C D w)))
    (H2 : Hid (∀ w, Calls Try.prog 49 #[.agg #[.float .f32 a', .float .f32 b', .float .f32 c', .float .f32 d']] w (BitsI A' B' C' D' w)))
    (HR : Hid (R = (decide (A = A') && (decide (B = B') && (decide (C = C') && decide (D = D')))))) :
    Calls Try.prog 37 #[.agg #[.float .f32 a, .float .f32 b, .float .f32 c, .float .f32 d], .agg #[.float .f32 a', .float .f32 b', .float .f32 c', .float .f32 d']] w fun e w' => e = .returned (.bool R) ∧ Below w.heap.size w w' := by
  have HP := (box4_alloc w a b c d 27).below ((Below.refl _ _).alloc (Nat.le_refl _) (.cells #[.float .f32 a', .float .f32 b', .float .f32 c', .float .f32 d'] 27))
  have HQ := box4_alloc (w.alloc (.cells #[.float .f32 a, .float .f32 b, .float .f32 c, .float .f32 d] 27)) a' b' c' d' 27
  obtain ⟨W, hW⟩ : ∃ W, W = (w.alloc (.cells #[.float .f32 a, .float .f32 b, .float .f32 c, .float .f32 d] 27)).alloc (.cells #[.float .f32 a', .float .f32 b', .float .f32 c', .float .f32 d'] 27) := ⟨_, rfl⟩
  have HB : Below w.heap.size w W := by rw [hW]; exact ((Below.refl _ _).alloc (Nat.le_refl _) _).alloc (by simp) _
  have hcs : (A ≠ A' ∧ R = false) ∨ (A = A' ∧ B ≠ B' ∧ R = false) ∨ (A = A' ∧ B = B' ∧ C ≠ C' ∧ R = false) ∨ (A = A' ∧ B = B' ∧ C = C' ∧ D ≠ D' ∧ R = false) ∨ (A = A' ∧ B = B' ∧ C = C' ∧ D = D' ∧ R = true) := by
    have h := HR.out
    by_cases h1 : A = A' <;> by_cases h2 : B = B' <;> by_cases h3 : C = C' <;> by_cases h4 : D = D' <;> simp [h1, h2, h3, h4] at h ⊢ <;> simp [h]
  clear HR
  have e1 : (w.alloc (.cells #[.float .f32 a, .float .f32 b, .float .f32 c, .float .f32 d] 27)).heap.size = w.heap.size + 1 := by simp
  go_enter Try.func37, Try.ntmps37
  go_wp2_with fail
  rw [← hW] at HP HQ ⊢
  clear hW
  rw [e1] at HQ
  have HBd : Below w.heap.size w W.drew := Below.drewN HB 1
  have hQd : Box4 W.drew (w.heap.size + 1) a' b' c' d' := HQ
  have hsd := HBd.size
  obtain ⟨p0, p1, p2, p3⟩ := HP
  obtain ⟨q0, q1, q2, q3⟩ := HQ
  rcases hcs with ⟨h1, rfl⟩ | ⟨h1, h2, rfl⟩ | ⟨h1, h2, h3, rfl⟩ | ⟨h1, h2, h3, h4, rfl⟩ | ⟨h1, h2, h3, h4, rfl⟩
  all_goals go_region_with (first
    | (go_at_call_of 49 (Value.agg #[.float .f32 a, .float .f32 b, .float .f32 c, .float .f32 d]); (with_reducible refine (H1.out _).mono ?_); rintro e0 w5 ⟨rfl, B0⟩; obtain ⟨s0, s1, s2, s3⟩ := Box4.below hQd B0; have HC := HBd.trans (B0.mono hsd); clear B0)
    | (go_at_call_of 49 (Value.agg #[.float .f32 a', .float .f32 b', .float .f32 c', .float .f32 d']); (with_reducible refine (H2.out _).mono ?_); rintro e0 w6 ⟨rfl, B0⟩; have HD := HC.trans (B0.mono (by exact HC.size)); clear B0))
  all_goals go_wp2
  all_goals go_ret
  all_goals exact ⟨rfl, HD⟩
theorem canon_dec (x y : Nat) : decide ((canon .f32 x : Int) = (canon .f32 y : Int)) = (canon .f32 x == canon .f32 y) := by
  rw [Bool.eq_iff_iff]; simp; exact ⟨fun h => by exact_mod_cast h, fun h => by rw [h]⟩
theorem implSP_any (a b c d a' b' c' d' : Nat) (h : a < 4294967296 ∧ b < 4294967296 ∧ c < 4294967296 ∧ d < 4294967296) (h' : a' < 4294967296 ∧ b' < 4294967296 ∧ c' < 4294967296 ∧ d' < 4294967296) (w : World) :
    Calls Try.prog 37 #[.agg #[.float .f32 a, .float .f32 b, .float .f32 c, .float .f32 d], .agg #[.float .f32 a', .float .f32 b', .float .f32 c', .float .f32 d']] w fun e w' => e = .returned (.bool (samePul a b c d a' b' c' d')) ∧ Below w.heap.size w w' :=
  implSP_in a b c d a' b' c' d' _ _ _ _ _ _ _ _ _ w (Lib.hid fun w => bitsPul_any a b c d h w) (Lib.hid fun w => bitsPul_any a' b' c' d' h' w)
    (Lib.hid (by rw [samePul_eq, canon_dec, canon_dec, canon_dec, canon_dec]))
end Go.Proofs.Ytbblohjldkpcnaa
