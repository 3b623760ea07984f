
/- Marks written into steps that a call has made, and found there again. -/
import Derived.Test.YtogmcinaoemnpaaSt
import Derived.Test.YtogmcinaoemnpaaLaw
namespace Go.Proofs.Ytogmcinaoemnpaa
open Go Go.ChangeShapes Go.WideShapes Go.ChangeAt Go.RowKit

theorem only_below {B g : Nat} {w w' : World} (h : B ≤ g) (hs : B ≤ w.heap.size) (o : Only g w w') : Below B w w' := ⟨o.1, o.2.1, o.2.2.1, o.2.2.2.1, fun k hk => o.2.2.2.2 k (by omega) (by omega)⟩
theorem cell_same {w w' : World} {b : Nat} (h : w'.heap[b]? = w.heap[b]?) (o : Nat) : w'.cell? ⟨b, o, none⟩ = w.cell? ⟨b, o, none⟩ := by
  simp only [World.cell?, h]
/-- The marks, written into a row: it holds them, and its block alone has changed. -/
def MarkedO (B g n cap : Nat) (k0 : Int) (w : World) (e : Ending) (w' : World) : Prop :=
  e = .returned (.int .i64 (k0 + n)) ∧ w'.ownsRow B 32 1 (.slice (some ⟨g, 0, none⟩) n cap) n (rowOf (mk k0) n) ∧ Only g w w'
set_option maxHeartbeats 1600000 in
theorem markO_any (B g n cap : Nat) (X : Nat → Nat) (k0 : Int) (w : World) (hown : w.ownsRow B 32 1 (.slice (some ⟨g, 0, none⟩) n cap) n (rowOf X n)) (hn : n ≤ 1048576) (hk0 : 0 ≤ k0) (hk1 : k0 ≤ 100000000) :
    Calls Try.prog 14 #[.slice (some ⟨g, 0, none⟩) n cap, .int .i64 k0] w (MarkedO B g n cap k0 w) := by
  go_enter Try.func14, Try.ntmps14
  go_wp2
  go_loopw [1, 5] (fun q i wr => ∃ k : Nat, k ≤ n ∧ i = .int .i64 k ∧ q = .int .i64 (k0 + k) ∧ wr.ownsRow B 32 1 (.slice (some ⟨g, 0, none⟩) n cap) n (rowOf (fun j => if j < k then mk k0 j else X j) n) ∧ Only g w wr) (fun _ i _ => n - (intOf i).toNat)
  case atStart => exact ⟨0, Nat.zero_le _, rfl, by simp, by simpa using hown, Only.refl _ _⟩
  case round =>
    obtain ⟨k, hk, rfl, rfl, hownk, hBk⟩ := hrel
    by_cases hlt : k < n
    · have hfz := hownk.frozenAt k
      have hcl : wr.cell? ⟨g, k, none⟩ = some (.float .f32 (X k)) := by
        rw [hownk.cellAt k (by omega), rowOf_get _ _ _ hlt, if_neg (by omega)]
      have hst := (hownk.stored k (.float .f32 (mk k0 k))).1
      rw [rowOf_set] at hst
      rw [rowOf_congr (Y := fun j => if j < k + 1 then mk k0 j else X j) (fun j _ => by
          by_cases hj : j = k
          · subst hj; simp
          · rw [if_neg hj]; by_cases hj2 : j < k
            · rw [if_pos hj2, if_pos (by omega)]
            · rw [if_neg hj2, if_neg (by omega)])] at hst
      have hB' : Only g w (wr.setCell ⟨g, k, none⟩ (.float .f32 (mk k0 k))) := hBk.setCell _ _
      have hsf := store_float wr ⟨g, k, none⟩ (mk k0 k) hcl hfz
      have hmk : floatOfInt .f32 (k0 + k) = mk k0 k := rfl
      clear hownk hBk hown
      go_wp2
      go_roundw
      case rel => exact ⟨k + 1, by omega, by go_num, by go_num, hst, hB'⟩
      case measure => simp [intOf]; omega
    · have hkn : k = n := by omega
      subst hkn
      have ho : wr.ownsRow B 32 1 (.slice (some ⟨g, 0, none⟩) k cap) k (rowOf (mk k0) k) := by
        rw [rowOf_congr (Y := mk k0) (fun j hj => by rw [if_pos hj])] at hownk
        exact hownk
      clear hownk
      go_wp2
      go_ret
      exact ⟨rfl, ho, hBk⟩
/-- Of the blocks that are there, g and h alone have changed. -/
def Two (g h : Nat) (w w' : World) : Prop := w'.os = w.os ∧ w'.tape = w.tape ∧ w'.output = w.output ∧ w.heap.size ≤ w'.heap.size ∧ ∀ k, k < w.heap.size → k ≠ g → k ≠ h → w'.heap[k]? = w.heap[k]?
theorem two_of {g h : Nat} {w w1 w2 : World} (a : Only g w w1) (b : Only h w1 w2) : Two g h w w2 :=
  ⟨b.1.trans a.1, b.2.1.trans a.2.1, b.2.2.1.trans a.2.2.1, Nat.le_trans a.2.2.2.1 b.2.2.2.1, fun k hk h1 h2 => (b.2.2.2.2 k (Nat.lt_of_lt_of_le hk a.2.2.2.1) h2).trans (a.2.2.2.2 k hk h1)⟩
theorem only_alloc {g : Nat} {w w' : World} {o : Obj} (a : Only g (w.alloc o) w') : Only g w w' := by
  obtain ⟨h1, h2, h3, h4, h5⟩ := a
  have hs : (w.alloc o).heap.size = w.heap.size + 1 := by simp
  exact ⟨h1, h2, h3, by omega, fun k hk hne => (h5 k (by omega) hne).trans (((Below.refl _ w).alloc (Nat.le_refl _) o).block k hk)⟩
theorem two_below {B g h : Nat} {w w' : World} (h1 : B ≤ g) (h2 : B ≤ h) (hs : B ≤ w.heap.size) (o : Two g h w w') : Below B w w' := ⟨o.1, o.2.1, o.2.2.1, o.2.2.2.1, fun k hk => o.2.2.2.2 k (by omega) (by omega) (by omega)⟩
theorem own_two {w w' : World} {B e g h l n cap : Nat} {xs : List Value} (hw : w.ownsRow B e 1 (.slice (some ⟨l, 0, none⟩) n cap) n xs) (hg : l ≠ g) (hh : l ≠ h) (o : Two g h w w') : w'.ownsRow B e 1 (.slice (some ⟨l, 0, none⟩) n cap) n xs := by
  refine ⟨hw.1, ?_⟩
  rcases hw.2 with ⟨h2, _⟩ | ⟨b', c, cur, h1, h2, h3, h4⟩
  · cases h2
  · have hb : b' < w.heap.size := (Array.getElem?_eq_some_iff.1 h3).1
    have hbg : b' = l := by simp only [Value.slice.injEq, Option.some.injEq, Addr.mk.injEq] at h1; exact h1.1.1.symm
    refine .inr ⟨b', c, cur, h1, h2, ?_, h4⟩
    rw [o.2.2.2.2 b' hb (by omega) (by omega)]
    exact h3
/-- Steps that hold marks from k0 on. -/
def MarkedSt (B g h n m cg ch : Nat) (k0 : Int) (w : World) (e : Ending) (w' : World) : Prop :=
  e = .returned (.int .i64 (k0 + n + m)) ∧ w'.ownsRow B 32 1 (.slice (some ⟨g, 0, none⟩) n cg) n (rowOf (mk k0) n) ∧ w'.ownsRow B 32 1 (.slice (some ⟨h, 0, none⟩) m ch) m (rowOf (mk (k0 + n)) m) ∧ Two g h w w'
set_option maxHeartbeats 1600000 in
theorem markSt_any (B g h n m cg ch : Nat) (X Y : Nat → Nat) (k0 : Int) (w : World) (hg : w.ownsRow B 32 1 (.slice (some ⟨g, 0, none⟩) n cg) n (rowOf X n)) (hh : w.ownsRow B 32 1 (.slice (some ⟨h, 0, none⟩) m ch) m (rowOf Y m)) (hne : g ≠ h)
    (hn : n ≤ 1048576) (hm : m ≤ 1048576) (hk0 : 0 ≤ k0) (hk1 : k0 ≤ 50000000) :
    Calls Try.prog 23 #[.agg #[.slice (some ⟨g, 0, none⟩) n cg, .slice (some ⟨h, 0, none⟩) m ch], .int .i64 k0] w (MarkedSt B g h n m cg ch k0 w) := by
  have hb0 : Below w.heap.size w (w.alloc (.cells #[.slice (some ⟨g, 0, none⟩) n cg, .slice (some ⟨h, 0, none⟩) m ch] 34)) := (Below.refl _ _).alloc (Nat.le_refl _) _
  have hg1 := own_below hg hb0
  have hh1 := own_below hh hb0
  have hgl := own_lt hg
  have hhl := own_lt hh
  clear hg hh
  go_enter Try.func23, Try.ntmps23
  go_wp2_with fail
  refine (markO_any B g n cg X k0 _ (by exact hg1) hn hk0 (by omega)).mono ?_
  rintro e0 w1 ⟨rfl, O1, o1⟩
  have hh2 := own_other hh1 (Ne.symm hne) o1
  have hq := (box2_alloc w (.slice (some ⟨g, 0, none⟩) n cg) (.slice (some ⟨h, 0, none⟩) m ch) 34)
  have hbx : w1.cell? ⟨w.heap.size, 1, none⟩ = some (.slice (some ⟨h, 0, none⟩) m ch) := (cell_same (o1.2.2.2.2 w.heap.size (by simp) (by omega)) 1).trans hq.2
  have hk2 : (0 : Int) ≤ k0 + n := by omega
  go_wp2_with fail
  refine (markO_any B h m ch Y (k0 + n) _ (by exact hh2) hm hk2 (by omega)).mono ?_
  rintro e0 w2 ⟨rfl, O2, o2⟩
  have O1' := own_other O1 hne o2
  go_wp2
  go_ret
  exact ⟨rfl, O1', O2, two_of (only_alloc o1) o2⟩
set_option maxHeartbeats 1600000 in
theorem heldSt_any (B : Nat) (v u : Value) (xa ya : Option Addr) (n m cg ch : Nat) (k0 : Int) (w : World) (hv : v = .slice xa n cg) (hu : u = .slice ya m ch) (hg : w.ownsRow B 32 1 v n (rowOf (mk k0) n)) (hh : w.ownsRow B 32 1 u m (rowOf (mk (k0 + n)) m))
    (hn : n ≤ 1048576) (hm : m ≤ 1048576) (hk0 : 0 ≤ k0) (hk1 : k0 ≤ 50000000) :
    Calls Try.prog 24 #[.agg #[v, u], .int .i64 k0] w fun e w' => e = .returned (.int .i64 (k0 + n + m)) ∧ Below w.heap.size w w' := by
  subst hv hu
  have hb0 : Below w.heap.size w (w.alloc (.cells #[.slice xa n cg, .slice ya m ch] 34)) := (Below.refl _ _).alloc (Nat.le_refl _) _
  have hg1 := own_below hg hb0
  have hh1 := own_below hh hb0
  clear hg hh
  have hk2 : (0 : Int) ≤ k0 + n := by omega
  have hk3 : (0 : Int) ≤ k0 + n + m := by omega
  go_enter Try.func24, Try.ntmps24
  go_wp2_with fail
  refine (heldF_any B _ n k0 _ (by exact hg1) hn hk0 (by omega)).mono ?_
  rintro e0 w1 ⟨rfl, rfl⟩
  go_wp2_with fail
  refine (heldF_any B _ m (k0 + n) _ (by exact hh1) hm hk2 (by omega)).mono ?_
  rintro e0 w1 ⟨rfl, rfl⟩
  go_wp2
  go_ret
  exact ⟨rfl, hb0⟩
end Go.Proofs.Ytogmcinaoemnpaa
