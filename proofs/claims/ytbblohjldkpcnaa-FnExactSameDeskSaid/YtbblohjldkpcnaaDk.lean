
/- The laws' own helpers on desks: what compares, marks and holds them. -/
import Derived.Test.YtbblohjldkpcnaaStm
import Derived.Test.YtbblohjldkpcnaaPul
import Derived.Test.YtbblohjldkpcnaaSame
namespace Go.Proofs.Ytbblohjldkpcnaa
open Go Go.ChangeShapes Go.WideShapes Go.ChangeAt Go.RowKit

set_option maxRecDepth 100000 in
set_option maxHeartbeats 1600000 in
theorem eqPulse_any (a b c d : Nat) (w : World) : Calls Try.prog 18 #[.agg #[.float .f32 a, .float .f32 b, .float .f32 c, .float .f32 d], .agg #[.float .f32 a, .float .f32 b, .float .f32 c, .float .f32 d]] w fun e w' => e = .returned (.bool true) ∧ Below w.heap.size w w' := by
  have hcv : ∀ (x s t : Nat), canon .f64 (pick .f64 (fconv .f32 x .f64) s) = canon .f64 (pick .f64 (fconv .f32 x .f64) t) := fun x s t => by rw [canon_pick, canon_pick]
  have HC := Lib.hid hcv
  clear hcv
  go_enter Try.func18, Try.ntmps18
  go_wp2_with (first | ((with_reducible refine wpL_fconv ?_); refine ⟨_, _, _, rfl, Option.isSome_iff_exists.2 ⟨_, Try.underlying25⟩, Try.underlying62, FloatKind.noConfusion, convOk_widen _, fun s n => ?_⟩))
  refine (sameFloat_any _ _ _ (HC.out _ _ _)).mono ?_
  rintro e w' ⟨rfl, q, rfl⟩
  go_wp2_with (first | ((with_reducible refine wpL_fconv ?_); refine ⟨_, _, _, rfl, Option.isSome_iff_exists.2 ⟨_, Try.underlying25⟩, Try.underlying62, FloatKind.noConfusion, convOk_widen _, fun s n => ?_⟩))
  refine (sameFloat_any _ _ _ (HC.out _ _ _)).mono ?_
  rintro e w' ⟨rfl, q2, rfl⟩
  go_wp2_with (first | ((with_reducible refine wpL_fconv ?_); refine ⟨_, _, _, rfl, Option.isSome_iff_exists.2 ⟨_, Try.underlying25⟩, Try.underlying62, FloatKind.noConfusion, convOk_widen _, fun s n => ?_⟩))
  refine (sameFloat_any _ _ _ (HC.out _ _ _)).mono ?_
  rintro e w' ⟨rfl, q3, rfl⟩
  go_wp2_with (first | ((with_reducible refine wpL_fconv ?_); refine ⟨_, _, _, rfl, Option.isSome_iff_exists.2 ⟨_, Try.underlying25⟩, Try.underlying62, FloatKind.noConfusion, convOk_widen _, fun s n => ?_⟩))
  refine (sameFloat_any _ _ _ (HC.out _ _ _)).mono ?_
  rintro e w' ⟨rfl, q4, rfl⟩
  go_wp2
  go_ret
  refine ⟨rfl, ?_⟩
  (repeat (first | with_reducible exact Below.refl _ _ | with_reducible refine Below.drewN ?_ _ | with_reducible refine Below.setCell ?_ (by simp; try omega) _ | with_reducible refine Below.alloc ?_ (by simp; try omega) _))
/-- A variable of a desk. -/
def Box7 (w : World) (b : Nat) (u0 u1 u2 u3 u4 u5 u6 : Value) : Prop :=
  w.cell? ⟨b, 0, none⟩ = some u0 ∧ w.cell? ⟨b, 1, none⟩ = some u1 ∧ w.cell? ⟨b, 2, none⟩ = some u2 ∧ w.cell? ⟨b, 3, none⟩ = some u3 ∧ w.cell? ⟨b, 4, none⟩ = some u4 ∧ w.cell? ⟨b, 5, none⟩ = some u5 ∧ w.cell? ⟨b, 6, none⟩ = some u6
theorem Box7.same {w w' : World} {b : Nat} {u0 u1 u2 u3 u4 u5 u6 : Value} (h : Box7 w b u0 u1 u2 u3 u4 u5 u6) (hb : w'.heap[b]? = w.heap[b]?) : Box7 w' b u0 u1 u2 u3 u4 u5 u6 := by
  obtain ⟨h0, h1, h2, h3, h4, h5, h6⟩ := h
  exact ⟨(cell_same hb _).trans h0, (cell_same hb _).trans h1, (cell_same hb _).trans h2, (cell_same hb _).trans h3, (cell_same hb _).trans h4, (cell_same hb _).trans h5, (cell_same hb _).trans h6⟩
theorem Box7.below {w w' : World} {b : Nat} {u0 u1 u2 u3 u4 u5 u6 : Value} (h : Box7 w b u0 u1 u2 u3 u4 u5 u6) (hb : Below w.heap.size w w') : Box7 w' b u0 u1 u2 u3 u4 u5 u6 :=
  h.same (hb.block b (World.block_lt_of_cell? w _ h.1))
theorem box7_alloc (w : World) (u0 u1 u2 u3 u4 u5 u6 : Value) (t : TypeId) : Box7 (w.alloc (.cells #[u0, u1, u2, u3, u4, u5, u6] t)) w.heap.size u0 u1 u2 u3 u4 u5 u6 := ⟨by simp, by simp, by simp, by simp, by simp, by simp, by simp⟩
set_option maxRecDepth 100000 in
set_option maxHeartbeats 1600000 in
theorem eqDesk_any (xa ya za xa' ya' za' : Option Addr) (n m k cx cy cz cx' cy' cz' : Nat) (X Y Z : Nat → Nat) (p q r s : Nat) (w : World) (hX : Rd w xa n X) (hY : Rd w ya m Y) (hZ : Rd w za k Z) (hX' : Rd w xa' n X) (hY' : Rd w ya' m Y) (hZ' : Rd w za' k Z) (hn : n ≤ 1048576) (hm : m ≤ 1048576) (hk : k ≤ 1048576) :
    Calls Try.prog 8 #[.agg #[.slice xa n cx, .slice ya m cy, .float .f32 p, .float .f32 q, .float .f32 r, .float .f32 s, .slice za k cz], .agg #[.slice xa' n cx', .slice ya' m cy', .float .f32 p, .float .f32 q, .float .f32 r, .float .f32 s, .slice za' k cz']] w fun e w' => e = .returned (.bool true) ∧ Below w.heap.size w w' := by
  obtain ⟨w0, hw0⟩ : ∃ w0, w0 = (w.alloc (.cells #[.slice xa n cx, .slice ya m cy, .float .f32 p, .float .f32 q, .float .f32 r, .float .f32 s, .slice za k cz] 29)).alloc (.cells #[.slice xa' n cx', .slice ya' m cy', .float .f32 p, .float .f32 q, .float .f32 r, .float .f32 s, .slice za' k cz'] 29) := ⟨_, rfl⟩
  have B0 : Below w.heap.size w w0 := by rw [hw0]; exact ((Below.refl _ _).alloc (Nat.le_refl _) _).alloc (by simp) _
  have P : Box7 w0 w.heap.size (.slice xa n cx) (.slice ya m cy) (.float .f32 p) (.float .f32 q) (.float .f32 r) (.float .f32 s) (.slice za k cz) := by
    rw [hw0]; exact (box7_alloc w _ _ _ _ _ _ _ _).below ((Below.refl _ _).alloc (Nat.le_refl _) _)
  have Q : Box7 w0 (w.heap.size + 1) (.slice xa' n cx') (.slice ya' m cy') (.float .f32 p) (.float .f32 q) (.float .f32 r) (.float .f32 s) (.slice za' k cz') := by
    rw [hw0]
    have := box7_alloc (w.alloc (.cells #[.slice xa n cx, .slice ya m cy, .float .f32 p, .float .f32 q, .float .f32 r, .float .f32 s, .slice za k cz] 29)) (.slice xa' n cx') (.slice ya' m cy') (.float .f32 p) (.float .f32 q) (.float .f32 r) (.float .f32 s) (.slice za' k cz') 29
    simpa using this
  have RX := hX.below B0
  have RY := hY.below B0
  have RZ := hZ.below B0
  have RX' := hX'.below B0
  have RY' := hY'.below B0
  have RZ' := hZ'.below B0
  clear hX hY hZ hX' hY' hZ'
  go_enter Try.func8, Try.ntmps8
  go_wp2_with fail
  rw [← hw0]
  clear hw0
  obtain ⟨p0, p1, p2, p3, p4, p5, p6⟩ := P
  obtain ⟨q0, q1, q2, q3, q4, q5, q6⟩ := Q
  go_wp2_with fail
  refine (eqSteps_any _ _ _ _ n m _ _ _ _ X Y _ (by exact RX) (by exact RY) (by exact RX') (by exact RY') hn hm).mono ?_
  rintro e0 w1 ⟨rfl, B1⟩
  have P := Box7.below ⟨p0, p1, p2, p3, p4, p5, p6⟩ B1
  have Q := Box7.below ⟨q0, q1, q2, q3, q4, q5, q6⟩ B1
  clear p0 p1 p2 p3 p4 p5 p6 q0 q1 q2 q3 q4 q5 q6
  obtain ⟨p0, p1, p2, p3, p4, p5, p6⟩ := P
  obtain ⟨q0, q1, q2, q3, q4, q5, q6⟩ := Q
  go_wp2_with fail
  refine (eqPulse_any p q r s _).mono ?_
  rintro e0 w2 ⟨rfl, B2⟩
  have P := Box7.below ⟨p0, p1, p2, p3, p4, p5, p6⟩ B2
  have Q := Box7.below ⟨q0, q1, q2, q3, q4, q5, q6⟩ B2
  clear p0 p1 p2 p3 p4 p5 p6 q0 q1 q2 q3 q4 q5 q6
  obtain ⟨p0, p1, p2, p3, p4, p5, p6⟩ := P
  obtain ⟨q0, q1, q2, q3, q4, q5, q6⟩ := Q
  go_wp2_with fail
  refine (eqF_any _ _ k _ _ Z Z _ (by exact (RZ.below B1).below B2) (by exact (RZ'.below B1).below B2) hk (fun _ _ => rfl)).mono ?_
  rintro e0 w3 ⟨rfl, q', rfl⟩
  have B3 := (B0.trans (B1.mono B0.size)).trans (B2.mono (B0.trans (B1.mono B0.size)).size)
  go_wp2
  go_ret
  exact ⟨rfl, Below.drewN B3 _⟩
theorem two_alloc {g h : Nat} {w w' : World} {o : Obj} (a : Two g h (w.alloc o) w') : Two g h w w' := by
  obtain ⟨h1, h2, h3, h4, h5⟩ := a
  have hs : (w.alloc o).heap.size = w.heap.size + 1 := by simp
  exact ⟨h1, h2, h3, by omega, fun k hk hg hh => (h5 k (by omega) hg hh).trans (((Below.refl _ w).alloc (Nat.le_refl _) o).block k hk)⟩
/-- A desk that holds marks from k0 on. -/
def MarkedDk (B g h l n m k cg ch cl : Nat) (k0 : Int) (w : World) (e : Ending) (w' : World) : Prop :=
  e = .returned (.int .i64 (k0 + n + m + k)) ∧ w'.ownsRow B 25 1 (.slice (some ⟨g, 0, none⟩) n cg) n (rowOf (mk k0) n) ∧ w'.ownsRow B 25 1 (.slice (some ⟨h, 0, none⟩) m ch) m (rowOf (mk (k0 + n)) m) ∧
    w'.ownsRow B 25 1 (.slice (some ⟨l, 0, none⟩) k cl) k (rowOf (mk (k0 + n + m)) k) ∧ Below B w w' ∧ ∀ j, j < w.heap.size → j ≠ g → j ≠ h → j ≠ l → w'.heap[j]? = w.heap[j]?
theorem own_ge' {w : World} {B e g n cap : Nat} {xs : List Value} (h : w.ownsRow B e 1 (.slice (some ⟨g, 0, none⟩) n cap) n xs) : B ≤ g := by
  rcases h.2 with ⟨h2, _⟩ | ⟨b, cap, cur, h1, h2, h3, h4⟩
  · cases h2
  · simp only [Value.slice.injEq, Option.some.injEq, Addr.mk.injEq] at h1
    rw [h1.1.1]
    exact h2
set_option maxRecDepth 100000 in
set_option maxHeartbeats 1600000 in
theorem markDk_any (B g h l n m k cg ch cl : Nat) (X Y Z : Nat → Nat) (p q r s : Nat) (k0 : Int) (w : World) (hg : w.ownsRow B 25 1 (.slice (some ⟨g, 0, none⟩) n cg) n (rowOf X n)) (hh : w.ownsRow B 25 1 (.slice (some ⟨h, 0, none⟩) m ch) m (rowOf Y m))
    (hl : w.ownsRow B 25 1 (.slice (some ⟨l, 0, none⟩) k cl) k (rowOf Z k)) (h1 : g ≠ h) (h2 : g ≠ l) (h3 : h ≠ l) (hn : n ≤ 1048576) (hm : m ≤ 1048576) (hk : k ≤ 1048576) (hk0 : 0 ≤ k0) (hk1 : k0 ≤ 10000000) :
    Calls Try.prog 9 #[.agg #[.slice (some ⟨g, 0, none⟩) n cg, .slice (some ⟨h, 0, none⟩) m ch, .float .f32 p, .float .f32 q, .float .f32 r, .float .f32 s, .slice (some ⟨l, 0, none⟩) k cl], .int .i64 k0] w (MarkedDk B g h l n m k cg ch cl k0 w) := by
  have hb0 : Below w.heap.size w (w.alloc (.cells #[.slice (some ⟨g, 0, none⟩) n cg, .slice (some ⟨h, 0, none⟩) m ch, .float .f32 p, .float .f32 q, .float .f32 r, .float .f32 s, .slice (some ⟨l, 0, none⟩) k cl] 29)) := (Below.refl _ _).alloc (Nat.le_refl _) _
  have hg1 := own_below hg hb0
  have hh1 := own_below hh hb0
  have hl1 := own_below hl hb0
  have hgl := own_lt hg
  have hhl := own_lt hh
  have hll := own_lt hl
  have bg := own_ge' hg
  have bh := own_ge' hh
  have bl := own_ge' hl
  have hbs : B ≤ w.heap.size := by omega
  have hq := box7_alloc w (.slice (some ⟨g, 0, none⟩) n cg) (.slice (some ⟨h, 0, none⟩) m ch) (.float .f32 p) (.float .f32 q) (.float .f32 r) (.float .f32 s) (.slice (some ⟨l, 0, none⟩) k cl) 29
  have HQ := Lib.hid hq
  clear hg hh hl hq
  go_enter Try.func9, Try.ntmps9
  go_wp2_with fail
  refine (markSt_any B g h n m cg ch X Y k0 _ (by exact hg1) (by exact hh1) h1 hn hm hk0 (by omega)).mono ?_
  rintro e0 w1 ⟨rfl, O1, O2, o1⟩
  have hl2 := own_two hl1 (Ne.symm h2) (Ne.symm h3) o1
  obtain ⟨_, _, _, _, _, _, hbx⟩ := HQ.out.same (o1.2.2.2.2 w.heap.size (by simp) (by omega) (by omega))
  have hk2 : (0 : Int) ≤ k0 + n + m := by omega
  go_wp2_with fail
  refine (markO_any B l k cl Z (k0 + n + m) _ (by exact hl2) hk hk2 (by omega)).mono ?_
  rintro e0 w2 ⟨rfl, O3, o2⟩
  have O1' := own_other O1 h2 o2
  have O2' := own_other O2 h3 o2
  have hs1 := (two_alloc o1).2.2.2.1
  have HB := (two_below bg bh hbs (two_alloc o1)).trans (only_below bl (by omega) o2)
  have HJ := Lib.hid (show ∀ j, j < w.heap.size → j ≠ g → j ≠ h → j ≠ l → w2.heap[j]? = w.heap[j]? from fun j hj j1 j2 j3 => (o2.2.2.2.2 j (by omega) j3).trans ((two_alloc o1).2.2.2.2 j hj j1 j2))
  go_wp2
  go_ret
  exact ⟨rfl, O1', O2', O3, HB, HJ.out⟩
set_option maxRecDepth 100000 in
set_option maxHeartbeats 1600000 in
theorem heldDk_any (B : Nat) (xa ya za : Option Addr) (n m k cg ch cl : Nat) (p q r s : Nat) (k0 : Int) (w : World) (hg : w.ownsRow B 25 1 (.slice xa n cg) n (rowOf (mk k0) n)) (hh : w.ownsRow B 25 1 (.slice ya m ch) m (rowOf (mk (k0 + n)) m))
    (hl : w.ownsRow B 25 1 (.slice za k cl) k (rowOf (mk (k0 + n + m)) k)) (hn : n ≤ 1048576) (hm : m ≤ 1048576) (hk : k ≤ 1048576) (hk0 : 0 ≤ k0) (hk1 : k0 ≤ 10000000) :
    Calls Try.prog 10 #[.agg #[.slice xa n cg, .slice ya m ch, .float .f32 p, .float .f32 q, .float .f32 r, .float .f32 s, .slice za k cl], .int .i64 k0] w fun e w' => e = .returned (.int .i64 (k0 + n + m + k)) ∧ Below w.heap.size w w' := by
  have hb0 : Below w.heap.size w (w.alloc (.cells #[.slice xa n cg, .slice ya m ch, .float .f32 p, .float .f32 q, .float .f32 r, .float .f32 s, .slice za k cl] 29)) := (Below.refl _ _).alloc (Nat.le_refl _) _
  have hg1 := own_below hg hb0
  have hh1 := own_below hh hb0
  have hl1 := own_below hl hb0
  have hq := box7_alloc w (.slice xa n cg) (.slice ya m ch) (.float .f32 p) (.float .f32 q) (.float .f32 r) (.float .f32 s) (.slice za k cl) 29
  have HQ := Lib.hid hq
  have hk2 : (0 : Int) ≤ k0 + n + m := by omega
  have hk3 : (0 : Int) ≤ k0 + n + m + k := by omega
  clear hg hh hl hq
  go_enter Try.func10, Try.ntmps10
  go_wp2_with fail
  refine (heldSt_any B _ _ xa ya n m cg ch k0 _ rfl rfl (by exact hg1) (by exact hh1) hn hm hk0 (by omega)).mono ?_
  rintro e0 w1 ⟨rfl, B1⟩
  obtain ⟨_, _, _, _, _, _, hbx⟩ := HQ.out.below B1
  have hl2 := own_below hl1 B1
  have HB := hb0.trans (B1.mono hb0.size)
  go_wp2_with fail
  refine (heldF_any B _ k (k0 + n + m) _ (by exact hl2) hk hk2 (by omega)).mono ?_
  rintro e0 w2 ⟨rfl, rfl⟩
  go_wp2
  go_ret
  exact ⟨rfl, HB⟩
end Go.Proofs.Ytbblohjldkpcnaa
