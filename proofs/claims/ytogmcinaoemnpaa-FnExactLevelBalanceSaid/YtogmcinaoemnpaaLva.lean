
/- Levels between which shares flow: rates into a level, rates away from one, and how shares grow. -/
import Derived.Test.YtogmcinaoemnpaaStp
import Derived.Test.YtogmcinaoemnpaaSum
import Derived.Test.YtogmcinaoemnpaaStm
namespace Go.Proofs.Ytogmcinaoemnpaa
set_option linter.all false
open Go Go.ChangeShapes Go.WideShapes Go.ChangeAt Go.RowKit

def lvI (n : Nat) (A : Nat → Nat) (k i : Nat) : Nat := A (i * n + k)
def lvO (n : Nat) (A : Nat → Nat) (k : Nat) : Nat := sumW (fun i => A (k * n + i)) n
def levG (n : Nat) (A X : Nat → Nat) (k : Nat) : Nat := fbin .sub .f32 (dotW X (lvI n A k) n) (fbin .mul .f32 (X k) (lvO n A k))
theorem dot_likeP {X S Y : Nat → Nat} {n : Nat} (h : LikeP X S n) : ∀ k, k ≤ n → dotW X Y k = dotW S Y k := by
  intro k
  induction k with
  | zero => intro _; rfl
  | succ k ih =>
    intro hk
    obtain ⟨s, e⟩ := h k (by omega)
    rw [dotW, dotW, ih (by omega), e, fbin_pick_l]
theorem levG_likeP {n : Nat} {A X S : Nat → Nat} (h : LikeP X S n) {k : Nat} (hk : k < n) : levG n A X k = levG n A S k := by
  obtain ⟨s, e⟩ := h k hk
  unfold levG
  rw [dot_likeP h n (Nat.le_refl _), e, fbin_pick_l]
theorem idx_lt {n i k : Nat} (hi : i < n) (hk : k < n) : i * n + k < n * n := by
  have h1 : (i + 1) * n ≤ n * n := Nat.mul_le_mul_right n (by omega)
  rw [Nat.add_mul, Nat.one_mul] at h1
  omega
theorem idx_small {n i : Nat} (hn : n ≤ 6) (hi : i ≤ 6) : i * n ≤ 36 := Nat.mul_le_mul hi hn
/-- Wraps of small products. -/
theorem mul_wrap {n i : Nat} (hn : n ≤ 6) (hi : i ≤ 6) : IntKind.i64.wrap ((i : Int) * (n : Int)) = ((i * n : Nat) : Int) := by
  have h1 := idx_small hn hi
  rw [← Int.natCast_mul, IntKind.wrap_i64]
  omega
/-- A variable of a flow. -/
def BoxF (w : World) (b n : Nat) (ra : Option Addr) (L rc : Nat) : Prop := w.cell? ⟨b, 0, none⟩ = some (.int .i64 (n : Int)) ∧ w.cell? ⟨b, 1, none⟩ = some (.slice ra L rc)
theorem BoxF.below {w w' : World} {b n L rc : Nat} {ra : Option Addr} (h : BoxF w b n ra L rc) (hb : Below w.heap.size w w') : BoxF w' b n ra L rc :=
  ⟨(hb.cell (p := ⟨b, 0, none⟩) (World.block_lt_of_cell? w _ h.1)).trans h.1, (hb.cell (p := ⟨b, 1, none⟩) (World.block_lt_of_cell? w _ h.2)).trans h.2⟩
theorem BoxF.only {w w' : World} {b n L rc g : Nat} {ra : Option Addr} (h : BoxF w b n ra L rc) (hne : b ≠ g) (o : Only g w w') : BoxF w' b n ra L rc := by
  have hb := World.block_lt_of_cell? w _ h.1
  have e := o.2.2.2.2 b hb hne
  refine ⟨?_, ?_⟩
  · rw [← h.1]; unfold World.cell?; simp only [e]
  · rw [← h.2]; unfold World.cell?; simp only [e]
theorem boxF_alloc (w : World) (n L rc : Nat) (ra : Option Addr) (t : TypeId) : BoxF (w.alloc (.cells #[.int .i64 (n : Int), .slice ra L rc] t)) w.heap.size n ra L rc := ⟨by simp, by simp⟩
/-- A row of the call's own. -/
def NewRow (R : Nat → Nat) (n : Nat) (w : World) (e : Ending) (w' : World) : Prop := ∃ g, e = .returned (.slice (some ⟨g, 0, none⟩) n n) ∧ w'.ownsRow w.heap.size 32 1 (.slice (some ⟨g, 0, none⟩) n n) n (rowOf R n) ∧ Below w.heap.size w w'
set_option maxRecDepth 100000 in
set_option maxHeartbeats 3200000 in
theorem into_any (n k : Nat) (ra : Option Addr) (L rc : Nat) (A : Nat → Nat) (w : World) (hA : Rd w ra L A) (hL : L = n * n) (hn : n ≤ 6) (h1 : 1 ≤ n) (hk : k < n) :
    Calls Try.prog 50 #[.agg #[.int .i64 (n : Int), .slice ra L rc], .int .i64 (k : Int)] w (NewRow (lvI n A k) n w) := by
  obtain ⟨i0, hi, hz0, hz1, hz2⟩ := info_parts infoF
  obtain ⟨xb, xo, hxa, hcx⟩ := hA
  have HX := Lib.hid hcx
  have hLp : 0 < L := by rw [hL]; exact Nat.mul_pos h1 h1
  have e := hxa hLp
  subst e
  have hL36 : L ≤ 36 := by rw [hL]; exact idx_small hn (by omega)
  have HL := Lib.hid hL
  have hb : i0.bytes * n ≤ 281474976710656 := by rw [hz2]; omega
  have hm : n ≤ maxLen := by unfold maxLen; omega
  have HQ := boxF_alloc w n L rc (some ⟨xb, xo, none⟩) 69
  have HA : Below w.heap.size w (w.alloc (.cells #[.int .i64 (n : Int), .slice (some ⟨xb, xo, none⟩) L rc] 69)) := (Below.refl _ _).alloc (Nat.le_refl _) _
  clear hcx hL
  go_enter Try.func50, Try.ntmps50
  go_wp2_with (at_make; refine wpList_make_full _ rfl _ _ 22 rfl w.heap.size 32 i0 (.float .f32 0) 1 Try.underlying22 hi hz0 hz1 _ _ _ _ n rfl rfl rfl rfl hb hm (by simp) ?_)
  intro w2 hown hgr
  rw [madeF] at hown
  have hB2 := (Below.refl (w.heap.size + 1) (w.alloc (.cells #[.int .i64 (n : Int), .slice (some ⟨xb, xo, none⟩) L rc] 69))).grown hgr (by simp) (fun _ h => by cases h)
  have hB2' : Below (w.alloc (.cells #[.int .i64 (n : Int), .slice (some ⟨xb, xo, none⟩) L rc] 69)).heap.size (w.alloc (.cells #[.int .i64 (n : Int), .slice (some ⟨xb, xo, none⟩) L rc] 69)) w2 := by simpa using hB2
  have HQ2 := HQ.below hB2'
  have HB : Below w.heap.size w w2 := HA.trans (hB2'.mono (by simp))
  have hown' : w2.ownsRow w.heap.size 32 1 (.slice (some ⟨w.heap.size + 1, 0, none⟩) n n) n (rowOf (fun j => if j < 0 then lvI n A k j else 0) n) := by
    rw [rowOf_congr (Y := fun _ => 0) (fun j _ => by simp)]
    simpa using hown
  clear hgr hb hm hi hz0 hz1 hz2 hown hB2 hB2' HQ HA
  go_wp2
  go_loopw [12] (fun i wr => ∃ c : Nat, c ≤ n ∧ i = .int .i64 (c : Int) ∧ wr.ownsRow w.heap.size 32 1 (.slice (some ⟨w.heap.size + 1, 0, none⟩) n n) n (rowOf (fun j => if j < c then lvI n A k j else 0) n) ∧ Only (w.heap.size + 1) w2 wr) (fun i _ => n - (intOf i).toNat)
  case atStart => exact ⟨0, Nat.zero_le _, rfl, hown', Only.refl _ _⟩
  case round =>
    obtain ⟨c, hc, rfl, hownk, hOn⟩ := hrel
    have HD : Below w.heap.size w wr := HB.trans (only_below (by omega) HB.size hOn)
    by_cases hlt : c < n
    · have hidx : c * n + k < L := by rw [HL.out]; exact idx_lt hlt hk
      have r1 := HX.out (c * n + k) hidx
      have hxl := World.block_lt_of_cell? w _ r1
      have r2 : wr.cell? ⟨xb, xo + (c * n + k), none⟩ = some (.float .f32 (A (c * n + k))) := (HD.cell (p := ⟨xb, xo + (c * n + k), none⟩) hxl).trans r1
      obtain ⟨q0, q1⟩ := HQ2.only (by omega) hOn
      have hmw := mul_wrap hn (show c ≤ 6 by omega)
      have haw : ((c * n : Nat) : Int) + (k : Int) = ((c * n + k : Nat) : Int) := by omega
      obtain ⟨p, hp⟩ : ∃ p, p = c * n + k := ⟨_, rfl⟩
      obtain ⟨m, hmn⟩ : ∃ m, m = c * n := ⟨_, rfl⟩
      rw [← hp] at r2 hidx haw
      rw [← hmn] at hmw haw
      have hpw : IntKind.i64.wrap ((m : Int) + (k : Int)) = (p : Int) := by rw [haw, IntKind.wrap_i64]; omega
      have hp36 : (p : Int) < (L : Int) := by omega
      have st := own_store hownk hlt 0 (A p)
      have HS := Lib.hid (own_stored hownk c (A p))
      have HO := Lib.hid hOn
      have HP := Lib.hid (show A p = lvI n A k c by rw [hp]; rfl)
      have hcl := own_cell hownk hlt
      have hfz := hownk.frozenAt c
      have hst := run_store_f32
      clear hownk hOn r1 hp hmn
      go_wp2
      go_roundw
      case rel =>
        refine ⟨c + 1, by omega, by go_num, ?_, Only.setCell HO.out _ _⟩
        rw [rowOf_congr (Y := fun i => if i = c then A p else (fun j => if j < c then lvI n A k j else 0) i) (fun j _ => by
          by_cases e : j = c
          · rw [if_pos e, e, if_pos (by omega), HP.out]
          · rw [if_neg e]
            show _ = (if j < c then lvI n A k j else 0)
            by_cases e2 : j < c
            · rw [if_pos e2, if_pos (by omega)]
            · rw [if_neg e2, if_neg (by omega)])]
        exact HS.out
      case measure => simp [intOf]; omega
    · have hcn : c = n := by omega
      subst hcn
      have hown2 : wr.ownsRow w.heap.size 32 1 (.slice (some ⟨w.heap.size + 1, 0, none⟩) c c) c (rowOf (lvI c A k) c) := by
        rw [rowOf_congr (Y := fun j => if j < c then lvI c A k j else 0) (fun j hj => by rw [if_pos hj])]
        exact hownk
      clear hownk
      go_wp2
      go_ret
      exact ⟨_, rfl, hown2, HD⟩
end Go.Proofs.Ytogmcinaoemnpaa
