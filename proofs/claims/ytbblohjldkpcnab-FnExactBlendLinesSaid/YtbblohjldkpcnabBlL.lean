
/- Of any two lines the program tells the blend just where the model does, and the same: for all arguments. -/
import Derived.Test.YtbblohjldkpcnabBli
import Derived.Test.YtbblohjldkpcnabSame
import Derived.Deep.Cut
import Derived.Deep.DeepCutAuto
namespace Go.Proofs.Ytbblohjldkpcnab
open Go Go.ChangeShapes Go.WideShapes Go.ChangeAt Go.RowKit
set_option linter.all false

set_option maxRecDepth 100000 in
set_option maxHeartbeats 1600000 in
theorem eqLineB_any (a b c : Nat) (d : Int) (w : World) : Calls Try.prog 42 #[.agg #[.float .f32 a, .float .f32 b, .float .f32 c, .int .i64 d], .agg #[.float .f32 a, .float .f32 b, .float .f32 c, .int .i64 d]] w fun e w' => e = .returned (.bool true) ∧ Below w.heap.size w w' := by
  have hcv : ∀ (x s t : Nat), canon .f64 (pick .f64 (fconv .f32 x .f64) s) = canon .f64 (pick .f64 (fconv .f32 x .f64) t) := fun x s t => by rw [canon_pick, canon_pick]
  have HC := Lib.hid hcv
  clear hcv
  have hne : (d != d) = false := by simp
  go_enter Try.func42, Try.ntmps42
  go_wp2_with (first | ((with_reducible refine wpL_fconv ?_); refine ⟨_, _, _, rfl, Option.isSome_iff_exists.2 ⟨_, Try.underlying43⟩, Try.underlying47, FloatKind.noConfusion, convOk_widen _, fun s n => ?_⟩))
  refine (sameFloat_any _ _ _ (HC.out _ _ _)).mono ?_
  rintro e w' ⟨rfl, q, rfl⟩
  go_wp2_with (first | ((with_reducible refine wpL_fconv ?_); refine ⟨_, _, _, rfl, Option.isSome_iff_exists.2 ⟨_, Try.underlying43⟩, Try.underlying47, FloatKind.noConfusion, convOk_widen _, fun s n => ?_⟩))
  refine (sameFloat_any _ _ _ (HC.out _ _ _)).mono ?_
  rintro e w' ⟨rfl, q2, rfl⟩
  go_wp2_with (first | ((with_reducible refine wpL_fconv ?_); refine ⟨_, _, _, rfl, Option.isSome_iff_exists.2 ⟨_, Try.underlying43⟩, Try.underlying47, FloatKind.noConfusion, convOk_widen _, fun s n => ?_⟩))
  refine (sameFloat_any _ _ _ (HC.out _ _ _)).mono ?_
  rintro e w' ⟨rfl, q3, rfl⟩
  go_wp2
  go_ret
  refine ⟨rfl, ?_⟩
  (repeat (first | with_reducible exact Below.refl _ _ | with_reducible refine Below.drewN ?_ _ | with_reducible refine Below.setCell ?_ (by simp; try omega) _ | with_reducible refine Below.alloc ?_ (by simp; try omega) _))
theorem LnBox.set {w : World} {b x y z g j : Nat} {k : Int} {v : Value} (h : LnBox w b x y z k) (hne : b ≠ g) : LnBox (w.setCell ⟨g, j, none⟩ v) b x y z k := by
  obtain ⟨h0, h1, h2, h3⟩ := h
  refine ⟨?_, ?_, ?_, ?_⟩ <;> (rw [World.cell?_setCell_other _ _ _ _ (by simp; try omega)]; assumption)
/-- What holds when a line has been told into a variable of its own. -/
def BlCut (W : World) (a b c : Nat) (d : Int) (a' b' c' : Nat) (d' : Int) (rP rH rW : Nat) (rk : Int) (ok : Bool) (L : World → Prop) (s5 s6 : Value) (wx : World) : Prop :=
  ∃ (g : Nat) (wy : World), wy = wx ∧ s5 = .pointer (some ⟨g, 0, none⟩) ∧ s6 = .bool ok ∧ LnBox wy g rP rH rW rk ∧ LnBox wy W.heap.size a b c d ∧ LnBox wy (W.heap.size + 1) a' b' c' d' ∧ Below W.heap.size W wy ∧ L wy
theorem blCut_alloc {W w : World} {a b c : Nat} {d : Int} {a' b' c' : Nat} {d' : Int} {rP rH rW : Nat} {rk : Int} {ok : Bool} {L : World → Prop} (hP : LnBox w W.heap.size a b c d) (hQ : LnBox w (W.heap.size + 1) a' b' c' d') (hB : Below W.heap.size W w)
    (hL : L (w.alloc (.cells #[.float .f32 rP, .float .f32 rH, .float .f32 rW, .int .i64 rk] 53))) : BlCut W a b c d a' b' c' d' rP rH rW rk ok L (.pointer (some ⟨w.heap.size, 0, none⟩)) (.bool ok) (w.alloc (.cells #[.float .f32 rP, .float .f32 rH, .float .f32 rW, .int .i64 rk] 53)) :=
  ⟨_, _, rfl, rfl, rfl, lnBox_alloc w rP rH rW rk _, hP.below ((Below.refl _ _).alloc (Nat.le_refl _) _), hQ.below ((Below.refl _ _).alloc (Nat.le_refl _) _), hB.alloc hB.size _, hL⟩
theorem blCut_set {W w : World} {g : Nat} {a b c : Nat} {d : Int} {a' b' c' : Nat} {d' : Int} {rP rH rW : Nat} {rk : Int} {ok : Bool} {L : World → Prop} (hP : LnBox w W.heap.size a b c d) (hQ : LnBox w (W.heap.size + 1) a' b' c' d') (hB : Below W.heap.size W w)
    (hg : W.heap.size + 1 < g) (c0 : LnBox w g 0 0 0 0) (hL : L ((((w.setCell ⟨g, 0, none⟩ (.float .f32 rP)).setCell ⟨g, 1, none⟩ (.float .f32 rH)).setCell ⟨g, 2, none⟩ (.float .f32 rW)).setCell ⟨g, 3, none⟩ (.int .i64 rk))) :
    BlCut W a b c d a' b' c' d' rP rH rW rk ok L (.pointer (some ⟨g, 0, none⟩)) (.bool ok) ((((w.setCell ⟨g, 0, none⟩ (.float .f32 rP)).setCell ⟨g, 1, none⟩ (.float .f32 rH)).setCell ⟨g, 2, none⟩ (.float .f32 rW)).setCell ⟨g, 3, none⟩ (.int .i64 rk)) := by
  obtain ⟨e0, e1, e2, e3⟩ := c0
  refine ⟨_, _, rfl, rfl, rfl, ⟨by simp [go_sem, e0, e1, e2, e3], by simp [go_sem, e0, e1, e2, e3], by simp [go_sem, e0, e1, e2, e3], by simp [go_sem, e0, e1, e2, e3]⟩, (((hP.set (by omega)).set (by omega)).set (by omega)).set (by omega), (((hQ.set (by omega)).set (by omega)).set (by omega)).set (by omega), ?_, hL⟩
  exact (((hB.setCell (p := ⟨g, 0, none⟩) (by simp; omega) _).setCell (p := ⟨g, 1, none⟩) (by simp; omega) _).setCell (p := ⟨g, 2, none⟩) (by simp; omega) _).setCell (p := ⟨g, 3, none⟩) (by simp; omega) _
/-- Another line's variable stays. -/
theorem keep_set {w : World} {l g x y z p q r : Nat} {k s : Int} (h : LnBox w l x y z k) (hne : l ≠ g) : LnBox ((((w.setCell ⟨g, 0, none⟩ (.float .f32 p)).setCell ⟨g, 1, none⟩ (.float .f32 q)).setCell ⟨g, 2, none⟩ (.float .f32 r)).setCell ⟨g, 3, none⟩ (.int .i64 s)) l x y z k :=
  (((h.set hne).set hne).set hne).set hne
theorem keep_alloc {w : World} {l x y z : Nat} {k : Int} (h : LnBox w l x y z k) (o : Obj) : LnBox (w.alloc o) l x y z k := h.below ((Below.refl _ _).alloc (Nat.le_refl _) o)
set_option maxRecDepth 100000 in
set_option maxHeartbeats 12800000 in
theorem lawBl_in (W : World) (a b c : Nat) (d : Int) (a' b' c' : Nat) (d' : Int) (rP rH rW : Nat) (rk : Int) (ok : Bool)
    (HS : Hid (∀ w, Calls Try.prog 39 #[.agg #[.float .f32 a, .float .f32 b, .float .f32 c, .int .i64 d], .agg #[.float .f32 a', .float .f32 b', .float .f32 c', .int .i64 d']] w (BlRet rP rH rW rk ok w)))
    (HI : Hid (∀ w, Calls Try.prog 41 #[.agg #[.float .f32 a, .float .f32 b, .float .f32 c, .int .i64 d], .agg #[.float .f32 a', .float .f32 b', .float .f32 c', .int .i64 d']] w (BlRet rP rH rW rk ok w))) :
    Calls Try.prog 9 #[.agg #[.float .f32 a, .float .f32 b, .float .f32 c, .int .i64 d], .agg #[.float .f32 a', .float .f32 b', .float .f32 c', .int .i64 d']] W fun e w' => e = .returned (.bool true) ∧ Below W.heap.size W w' := by
  have hst := run_store_f32
  have hst2 := run_store_i64
  have hne : (ok != ok) = false := by simp
  obtain ⟨w0, hw0⟩ : ∃ w0, w0 = (W.alloc (.cells #[.float .f32 a, .float .f32 b, .float .f32 c, .int .i64 d] 52)).alloc (.cells #[.float .f32 a', .float .f32 b', .float .f32 c', .int .i64 d'] 52) := ⟨_, rfl⟩
  have HP : LnBox w0 W.heap.size a b c d := by
    rw [hw0]; exact (lnBox_alloc W a b c d 52).below ((Below.refl _ _).alloc (Nat.le_refl _) _)
  have HQ : LnBox w0 (W.heap.size + 1) a' b' c' d' := by
    rw [hw0]
    have h := lnBox_alloc (W.alloc (.cells #[.float .f32 a, .float .f32 b, .float .f32 c, .int .i64 d] 52)) a' b' c' d' 52
    rwa [show (W.alloc (.cells #[.float .f32 a, .float .f32 b, .float .f32 c, .int .i64 d] 52)).heap.size = W.heap.size + 1 by simp] at h
  have HB : Below W.heap.size W w0 := by rw [hw0]; exact ((Below.refl _ _).alloc (Nat.le_refl _) _).alloc (by simp) _
  go_enter Try.func9, Try.ntmps9
  go_wp2_with fail
  rw [← hw0]
  clear hw0
  have hS0 : W.heap.size + 1 < w0.heap.size := World.block_lt_of_cell? w0 _ HQ.1
  go_cut [5, 6] (BlCut W a b c d a' b' c' d' rP rH rW rk ok (fun _ => True))
  case first =>
    have hS1 : W.heap.size < w0.heap.size := by omega
    have ha0 : ∀ (cs : Array Value) (t : TypeId) (j : Nat), (w0.drew.alloc (.cells cs t)).cell? ⟨w0.heap.size, j, none⟩ = cs[j]? := fun cs t j => World.cell?_alloc_new w0.drew cs t j
    have ha1 : ∀ (cs : Array Value) (t : TypeId) (j : Nat), (w0.drew.alloc (.cells cs t)).frozen? ⟨w0.heap.size, j, none⟩ = false := fun cs t j => World.frozen?_alloc_new w0.drew cs t j
    have HPd : LnBox w0.drew W.heap.size a b c d := HP
    have HQd : LnBox w0.drew (W.heap.size + 1) a' b' c' d' := HQ
    obtain ⟨p0, p1, p2, p3⟩ := id HP
    obtain ⟨q0, q1, q2, q3⟩ := id HQ
    go_region_with (first
      | (go_at_call_of 40 (Value.agg #[.float .f32 a, .float .f32 b, .float .f32 c, .int .i64 d]); refine (toLine_any a b c d _).mono ?_; rintro e0 w5 ⟨rfl, B0⟩; obtain ⟨hcw5, hfw5⟩ := bcellL B0; (try (have hl_w5_w0 : w0.heap.size < w5.heap.size := by have := B0.size; (try simp at this); omega)); (try (have hg_w5_w0 : w0.heap.size ≤ w5.heap.size := by first | exact B0.size | omega | (have := B0.size; omega) | (have := B0.size; simp at this; omega))); have Pw5 := LnBox.below (by first | exact HPd | exact LnBox.below HPd ((Below.refl _ _).alloc (Nat.le_refl _) _)) B0; have Qw5 := LnBox.below (by first | exact HQd | exact LnBox.below HQd ((Below.refl _ _).alloc (Nat.le_refl _) _)) B0; obtain ⟨s0, s1, s2, s3⟩ := id Qw5; have htw5 := World.block_lt_of_cell? w5 _ s0; have Cw5 : Below W.heap.size W w5 := Below.trans (by first | exact Below.drewN HB 1 | exact Below.alloc (Below.drewN HB 1) HB.size _) (B0.mono (by first | exact HB.size | exact Nat.le_trans HB.size (by simp))); clear B0)
      | (go_at_call_of 40 (Value.agg #[.float .f32 a', .float .f32 b', .float .f32 c', .int .i64 d']); refine (toLine_any a' b' c' d' _).mono ?_; rintro e0 w6 ⟨rfl, B0⟩; obtain ⟨hcw6, hfw6⟩ := bcellL B0; (try (have hl_w6_w0 : w0.heap.size < w6.heap.size := by have := B0.size; (try simp at this); omega)); (try (have hl_w6_w5 : w5.heap.size < w6.heap.size := by have := B0.size; (try simp at this); omega)); (try (have hg_w6_w0 : w0.heap.size ≤ w6.heap.size := by first | exact B0.size | omega | (have := B0.size; omega) | (have := B0.size; simp at this; omega))); (try (have hg_w6_w5 : w5.heap.size ≤ w6.heap.size := by first | exact B0.size | omega | (have := B0.size; omega) | (have := B0.size; simp at this; omega))); have Pw6 := LnBox.below (by first | exact Pw5 | exact LnBox.below Pw5 ((Below.refl _ _).alloc (Nat.le_refl _) _)) B0; have Qw6 := LnBox.below (by first | exact Qw5 | exact LnBox.below Qw5 ((Below.refl _ _).alloc (Nat.le_refl _) _)) B0; have Cw6 : Below W.heap.size W w6 := Below.trans (by first | exact Cw5 | exact Cw5.alloc Cw5.size _) (B0.mono (by first | exact Cw5.size | exact Nat.le_trans Cw5.size (by simp))); clear B0)
      | (go_at_call 39; refine (HS.out _).mono ?_; rintro e0 w7 ⟨rfl, B0⟩; obtain ⟨hcw7, hfw7⟩ := bcellL B0; (try (have hl_w7_w0 : w0.heap.size < w7.heap.size := by have := B0.size; (try simp at this); omega)); (try (have hl_w7_w5 : w5.heap.size < w7.heap.size := by have := B0.size; (try simp at this); omega)); (try (have hl_w7_w6 : w6.heap.size < w7.heap.size := by have := B0.size; (try simp at this); omega)); (try (have hg_w7_w0 : w0.heap.size ≤ w7.heap.size := by first | exact B0.size | omega | (have := B0.size; omega) | (have := B0.size; simp at this; omega))); (try (have hg_w7_w5 : w5.heap.size ≤ w7.heap.size := by first | exact B0.size | omega | (have := B0.size; omega) | (have := B0.size; simp at this; omega))); (try (have hg_w7_w6 : w6.heap.size ≤ w7.heap.size := by first | exact B0.size | omega | (have := B0.size; omega) | (have := B0.size; simp at this; omega))); have Pw7 := LnBox.below (by first | exact Pw6 | exact LnBox.below Pw6 ((Below.refl _ _).alloc (Nat.le_refl _) _)) B0; have Qw7 := LnBox.below (by first | exact Qw6 | exact LnBox.below Qw6 ((Below.refl _ _).alloc (Nat.le_refl _) _)) B0; have Cw7 : Below W.heap.size W w7 := Below.trans (by first | exact Cw6 | exact Cw6.alloc Cw6.size _) (B0.mono (by first | exact Cw6.size | exact Nat.le_trans Cw6.size (by simp))); clear B0))
    all_goals go_wp2_with fail
    all_goals go_meet
    all_goals first
      | exact blCut_alloc Pw7 Qw7 Cw7 (trivial)
      | exact blCut_set Pw7 Qw7 Cw7 (World.block_lt_of_cell? w6 _ Qw6.1) ⟨(hcw7 _ _ (by simp)).trans (by first | simp [go_sem] | simp [go_sem, ha0] | exact World.cell?_alloc_new _ _ _ _), (hcw7 _ _ (by simp)).trans (by first | simp [go_sem] | simp [go_sem, ha0] | exact World.cell?_alloc_new _ _ _ _), (hcw7 _ _ (by simp)).trans (by first | simp [go_sem] | simp [go_sem, ha0] | exact World.cell?_alloc_new _ _ _ _), (hcw7 _ _ (by simp)).trans (by first | simp [go_sem] | simp [go_sem, ha0] | exact World.cell?_alloc_new _ _ _ _)⟩ (trivial)
      | exact blCut_set Pw7 Qw7 Cw7 (World.block_lt_of_cell? w5 _ Qw5.1) ⟨(hcw7 _ _ hl_w6_w5).trans ((hcw6 _ _ (by simp)).trans (by first | simp [go_sem] | simp [go_sem, ha0] | exact World.cell?_alloc_new _ _ _ _)), (hcw7 _ _ hl_w6_w5).trans ((hcw6 _ _ (by simp)).trans (by first | simp [go_sem] | simp [go_sem, ha0] | exact World.cell?_alloc_new _ _ _ _)), (hcw7 _ _ hl_w6_w5).trans ((hcw6 _ _ (by simp)).trans (by first | simp [go_sem] | simp [go_sem, ha0] | exact World.cell?_alloc_new _ _ _ _)), (hcw7 _ _ hl_w6_w5).trans ((hcw6 _ _ (by simp)).trans (by first | simp [go_sem] | simp [go_sem, ha0] | exact World.cell?_alloc_new _ _ _ _))⟩ (trivial)
      | exact blCut_set Pw7 Qw7 Cw7 hS0 ⟨(hcw7 _ _ hl_w6_w0).trans ((hcw6 _ _ hl_w5_w0).trans ((hcw5 _ _ (by simp)).trans (by first | simp [go_sem] | simp [go_sem, ha0] | exact World.cell?_alloc_new _ _ _ _))), (hcw7 _ _ hl_w6_w0).trans ((hcw6 _ _ hl_w5_w0).trans ((hcw5 _ _ (by simp)).trans (by first | simp [go_sem] | simp [go_sem, ha0] | exact World.cell?_alloc_new _ _ _ _))), (hcw7 _ _ hl_w6_w0).trans ((hcw6 _ _ hl_w5_w0).trans ((hcw5 _ _ (by simp)).trans (by first | simp [go_sem] | simp [go_sem, ha0] | exact World.cell?_alloc_new _ _ _ _))), (hcw7 _ _ hl_w6_w0).trans ((hcw6 _ _ hl_w5_w0).trans ((hcw5 _ _ (by simp)).trans (by first | simp [go_sem] | simp [go_sem, ha0] | exact World.cell?_alloc_new _ _ _ _)))⟩ (trivial)
  case rest =>
    clear HP HQ HB hS0
    obtain ⟨g1, wy, hwy, rfl, rfl, LR, HP, HQ, HB, _⟩ := hcut
    subst hwy
    have hS0 : W.heap.size + 1 < wy.heap.size := World.block_lt_of_cell? wy _ HQ.1
    go_wp2_with fail
    go_cut [7, 8] (BlCut W a b c d a' b' c' d' rP rH rW rk ok (fun wz => LnBox wz g1 rP rH rW rk))
    case first =>
      have hS1 : W.heap.size < wy.heap.size := by omega
      have ha0 : ∀ (cs : Array Value) (t : TypeId) (j : Nat), (wy.drew.alloc (.cells cs t)).cell? ⟨wy.heap.size, j, none⟩ = cs[j]? := fun cs t j => World.cell?_alloc_new wy.drew cs t j
      have ha1 : ∀ (cs : Array Value) (t : TypeId) (j : Nat), (wy.drew.alloc (.cells cs t)).frozen? ⟨wy.heap.size, j, none⟩ = false := fun cs t j => World.frozen?_alloc_new wy.drew cs t j
      have HPd : LnBox wy.drew W.heap.size a b c d := HP
      have HQd : LnBox wy.drew (W.heap.size + 1) a' b' c' d' := HQ
      have HGd : LnBox wy.drew g1 rP rH rW rk := LR
      have hG1 := World.block_lt_of_cell? wy _ LR.1
      obtain ⟨p0, p1, p2, p3⟩ := id HP
      obtain ⟨q0, q1, q2, q3⟩ := id HQ
      go_region_with (first
      | (go_at_call_of 40 (Value.agg #[.float .f32 a, .float .f32 b, .float .f32 c, .int .i64 d]); refine (toLine_any a b c d _).mono ?_; rintro e0 w15 ⟨rfl, B0⟩; obtain ⟨hcw15, hfw15⟩ := bcellL B0; (try (have hl_w15_wy : wy.heap.size < w15.heap.size := by have := B0.size; (try simp at this); omega)); (try (have hg_w15_wy : wy.heap.size ≤ w15.heap.size := by first | exact B0.size | omega | (have := B0.size; omega) | (have := B0.size; simp at this; omega))); have Pw15 := LnBox.below (by first | exact HPd | exact LnBox.below HPd ((Below.refl _ _).alloc (Nat.le_refl _) _)) B0; have Qw15 := LnBox.below (by first | exact HQd | exact LnBox.below HQd ((Below.refl _ _).alloc (Nat.le_refl _) _)) B0; have Gw15 := LnBox.below (by first | exact HGd | exact LnBox.below HGd ((Below.refl _ _).alloc (Nat.le_refl _) _)) B0; obtain ⟨s0, s1, s2, s3⟩ := id Qw15; have htw15 := World.block_lt_of_cell? w15 _ s0; have Cw15 : Below W.heap.size W w15 := Below.trans (by first | exact Below.drewN HB 1 | exact Below.alloc (Below.drewN HB 1) HB.size _) (B0.mono (by first | exact HB.size | exact Nat.le_trans HB.size (by simp))); clear B0)
      | (go_at_call_of 40 (Value.agg #[.float .f32 a', .float .f32 b', .float .f32 c', .int .i64 d']); refine (toLine_any a' b' c' d' _).mono ?_; rintro e0 w16 ⟨rfl, B0⟩; obtain ⟨hcw16, hfw16⟩ := bcellL B0; (try (have hl_w16_wy : wy.heap.size < w16.heap.size := by have := B0.size; (try simp at this); omega)); (try (have hl_w16_w15 : w15.heap.size < w16.heap.size := by have := B0.size; (try simp at this); omega)); (try (have hg_w16_wy : wy.heap.size ≤ w16.heap.size := by first | exact B0.size | omega | (have := B0.size; omega) | (have := B0.size; simp at this; omega))); (try (have hg_w16_w15 : w15.heap.size ≤ w16.heap.size := by first | exact B0.size | omega | (have := B0.size; omega) | (have := B0.size; simp at this; omega))); have Pw16 := LnBox.below (by first | exact Pw15 | exact LnBox.below Pw15 ((Below.refl _ _).alloc (Nat.le_refl _) _)) B0; have Qw16 := LnBox.below (by first | exact Qw15 | exact LnBox.below Qw15 ((Below.refl _ _).alloc (Nat.le_refl _) _)) B0; have Gw16 := LnBox.below (by first | exact Gw15 | exact LnBox.below Gw15 ((Below.refl _ _).alloc (Nat.le_refl _) _)) B0; have Cw16 : Below W.heap.size W w16 := Below.trans (by first | exact Cw15 | exact Cw15.alloc Cw15.size _) (B0.mono (by first | exact Cw15.size | exact Nat.le_trans Cw15.size (by simp))); clear B0)
      | (go_at_call 41; refine (HI.out _).mono ?_; rintro e0 w17 ⟨rfl, B0⟩; obtain ⟨hcw17, hfw17⟩ := bcellL B0; (try (have hl_w17_wy : wy.heap.size < w17.heap.size := by have := B0.size; (try simp at this); omega)); (try (have hl_w17_w15 : w15.heap.size < w17.heap.size := by have := B0.size; (try simp at this); omega)); (try (have hl_w17_w16 : w16.heap.size < w17.heap.size := by have := B0.size; (try simp at this); omega)); (try (have hg_w17_wy : wy.heap.size ≤ w17.heap.size := by first | exact B0.size | omega | (have := B0.size; omega) | (have := B0.size; simp at this; omega))); (try (have hg_w17_w15 : w15.heap.size ≤ w17.heap.size := by first | exact B0.size | omega | (have := B0.size; omega) | (have := B0.size; simp at this; omega))); (try (have hg_w17_w16 : w16.heap.size ≤ w17.heap.size := by first | exact B0.size | omega | (have := B0.size; omega) | (have := B0.size; simp at this; omega))); have Pw17 := LnBox.below (by first | exact Pw16 | exact LnBox.below Pw16 ((Below.refl _ _).alloc (Nat.le_refl _) _)) B0; have Qw17 := LnBox.below (by first | exact Qw16 | exact LnBox.below Qw16 ((Below.refl _ _).alloc (Nat.le_refl _) _)) B0; have Gw17 := LnBox.below (by first | exact Gw16 | exact LnBox.below Gw16 ((Below.refl _ _).alloc (Nat.le_refl _) _)) B0; have Cw17 : Below W.heap.size W w17 := Below.trans (by first | exact Cw16 | exact Cw16.alloc Cw16.size _) (B0.mono (by first | exact Cw16.size | exact Nat.le_trans Cw16.size (by simp))); clear B0))
      all_goals go_wp2_with fail
      all_goals go_meet
      all_goals first
        | exact blCut_alloc Pw17 Qw17 Cw17 (keep_alloc Gw17 _)
        | exact blCut_set Pw17 Qw17 Cw17 (World.block_lt_of_cell? w16 _ Qw16.1) ⟨(hcw17 _ _ (by simp)).trans (by first | simp [go_sem] | simp [go_sem, ha0] | exact World.cell?_alloc_new _ _ _ _), (hcw17 _ _ (by simp)).trans (by first | simp [go_sem] | simp [go_sem, ha0] | exact World.cell?_alloc_new _ _ _ _), (hcw17 _ _ (by simp)).trans (by first | simp [go_sem] | simp [go_sem, ha0] | exact World.cell?_alloc_new _ _ _ _), (hcw17 _ _ (by simp)).trans (by first | simp [go_sem] | simp [go_sem, ha0] | exact World.cell?_alloc_new _ _ _ _)⟩ (keep_set Gw17 (by omega))
        | exact blCut_set Pw17 Qw17 Cw17 (World.block_lt_of_cell? w15 _ Qw15.1) ⟨(hcw17 _ _ hl_w16_w15).trans ((hcw16 _ _ (by simp)).trans (by first | simp [go_sem] | simp [go_sem, ha0] | exact World.cell?_alloc_new _ _ _ _)), (hcw17 _ _ hl_w16_w15).trans ((hcw16 _ _ (by simp)).trans (by first | simp [go_sem] | simp [go_sem, ha0] | exact World.cell?_alloc_new _ _ _ _)), (hcw17 _ _ hl_w16_w15).trans ((hcw16 _ _ (by simp)).trans (by first | simp [go_sem] | simp [go_sem, ha0] | exact World.cell?_alloc_new _ _ _ _)), (hcw17 _ _ hl_w16_w15).trans ((hcw16 _ _ (by simp)).trans (by first | simp [go_sem] | simp [go_sem, ha0] | exact World.cell?_alloc_new _ _ _ _))⟩ (keep_set Gw17 (by omega))
        | exact blCut_set Pw17 Qw17 Cw17 hS0 ⟨(hcw17 _ _ hl_w16_wy).trans ((hcw16 _ _ hl_w15_wy).trans ((hcw15 _ _ (by simp)).trans (by first | simp [go_sem] | simp [go_sem, ha0] | exact World.cell?_alloc_new _ _ _ _))), (hcw17 _ _ hl_w16_wy).trans ((hcw16 _ _ hl_w15_wy).trans ((hcw15 _ _ (by simp)).trans (by first | simp [go_sem] | simp [go_sem, ha0] | exact World.cell?_alloc_new _ _ _ _))), (hcw17 _ _ hl_w16_wy).trans ((hcw16 _ _ hl_w15_wy).trans ((hcw15 _ _ (by simp)).trans (by first | simp [go_sem] | simp [go_sem, ha0] | exact World.cell?_alloc_new _ _ _ _))), (hcw17 _ _ hl_w16_wy).trans ((hcw16 _ _ hl_w15_wy).trans ((hcw15 _ _ (by simp)).trans (by first | simp [go_sem] | simp [go_sem, ha0] | exact World.cell?_alloc_new _ _ _ _)))⟩ (keep_set Gw17 (by omega))
    case rest =>
      clear HP HQ HB hS0 LR
      obtain ⟨g2, wz, hwz, rfl, rfl, LS, _, _, HB, LR⟩ := hcut
      subst hwz
      obtain ⟨p0, p1, p2, p3⟩ := id LR
      obtain ⟨q0, q1, q2, q3⟩ := id LS
      go_wp2_with fail
      refine (eqLineB_any _ _ _ _ _).mono ?_
      rintro e0 w20 ⟨rfl, B0⟩
      have HC := HB.trans (B0.mono HB.size)
      go_wp2
      go_ret
      exact ⟨rfl, HC⟩
theorem lawBl_any (W : World) (a b c : Nat) (d : Int) (h : a < 4294967296 ∧ b < 4294967296 ∧ c < 4294967296 ∧ (Lit.int .i64 d).wf = true) (a' b' c' : Nat) (d' : Int) (h' : a' < 4294967296 ∧ b' < 4294967296 ∧ c' < 4294967296 ∧ (Lit.int .i64 d').wf = true) :
    Calls Try.prog 9 #[.agg #[.float .f32 a, .float .f32 b, .float .f32 c, .int .i64 d], .agg #[.float .f32 a', .float .f32 b', .float .f32 c', .int .i64 d']] W fun e w' => e = .returned (.bool true) ∧ Below W.heap.size W w' :=
  lawBl_in W a b c d a' b' c' d' _ _ _ _ _ (Lib.hid fun w => specBl_any a b c d a' b' c' d' ⟨h.1, h.2.1, h.2.2.1⟩ ⟨h'.1, h'.2.1, h'.2.2.1⟩ w _ (Lib.hid rfl) _ _ _ _ (Lib.hid ⟨rfl, rfl, rfl, rfl⟩)) (Lib.hid fun w => implBl_any a b c d a' b' c' d' ⟨h.1, h.2.1, h.2.2.1⟩ ⟨h'.1, h'.2.1, h'.2.2.1⟩ w _ (Lib.hid rfl) _ _ _ _ (Lib.hid ⟨rfl, rfl, rfl, rfl⟩))
end Go.Proofs.Ytbblohjldkpcnab
