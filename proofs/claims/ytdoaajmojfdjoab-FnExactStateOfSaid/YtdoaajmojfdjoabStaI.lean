/- The state of a level, as the program tells it: rows solved in place. -/
import Derived.Test.YtdoaajmojfdjoabStaP
import Derived.RegionTactic
namespace Go.Proofs.Ytdoaajmojfdjoab
open Go Go.ChangeShapes Go.WideShapes Go.ChangeAt Go.RowKit

theorem rgt_step0 {X : Nat → Nat} {b near : Nat} {S : Nat → Nat} {n : Nat} : ∀ j, j < n → (fun j => if j < 0 then rgtR X b near S j else S j) j = (fun j => if j < 1 then rgtR X b near S j else S j) j := fun j _ => by
  by_cases h : j = 0
  · subst h; rfl
  · simp only [if_neg (by omega : ¬ j < 0), if_neg (by omega : ¬ j < 1)]
theorem rgt_step {X : Nat → Nat} {b near : Nat} {S : Nat → Nat} {n : Nat} (k : Nat) : ∀ j, j < n → (fun j => if j = k then rgtR X b near S k else (fun j => if j < k then rgtR X b near S j else S j) j) j = (fun j => if j < k + 1 then rgtR X b near S j else S j) j := fun j _ => by
  by_cases h : j = k
  · subst h; simp
  · by_cases h2 : j < k
    · simp only [if_neg h, if_pos h2, if_pos (by omega : j < k + 1)]
    · simp only [if_neg h, if_neg h2, if_neg (by omega : ¬ j < k + 1)]
/-- A row that is solved in place. -/
def Solved (B g cs n : Nat) (R : Nat → Nat) (w : World) (e : Ending) (w' : World) : Prop :=
  e = .returned (.tuple #[]) ∧ (∃ Z, w'.ownsRow B 23 1 (.slice (some ⟨g, 0, none⟩) n cs) n (rowOf Z n) ∧ LikeP Z R n) ∧ Below B w w'
theorem sol_step {X : Nat → Nat} {b near : Nat} {S : Nat → Nat} {n : Nat} (k : Nat) (hk : 0 < k) : ∀ j, j < n → (fun j => if j = k - 1 then solR X b near S n (k - 1) else (fun j => if k ≤ j then solR X b near S n j else rgtR X b near S j) j) j = (fun j => if k - 1 ≤ j then solR X b near S n j else rgtR X b near S j) j := fun j _ => by
  by_cases h : j = k - 1
  · subst h; simp
  · by_cases h2 : k ≤ j
    · simp only [if_neg h, if_pos h2, if_pos (by omega : k - 1 ≤ j)]
    · simp only [if_neg h, if_neg h2, if_neg (by omega : ¬ k - 1 ≤ j)]
theorem run_quo32 (t : TypeId) (x y : Nat) (w : World) : (binOp .quo t (.float .f32 x) (.float .f32 y)).run Try.prog w = .ok (.float .f32 (pick .f32 (fbin .quo .f32 x y) (sdb w .f32 x y))) (w.drewN (nd .f32 (fbin .quo .f32 x y))) := run_binop rfl t .f32 x y w
theorem run_sub32 (t : TypeId) (x y : Nat) (w : World) : (binOp .sub t (.float .f32 x) (.float .f32 y)).run Try.prog w = .ok (.float .f32 (pick .f32 (fbin .sub .f32 x y) (sdb w .f32 x y))) (w.drewN (nd .f32 (fbin .sub .f32 x y))) := run_binop rfl t .f32 x y w
theorem run_mul32 (t : TypeId) (x y : Nat) (w : World) : (binOp .mul t (.float .f32 x) (.float .f32 y)).run Try.prog w = .ok (.float .f32 (pick .f32 (fbin .mul .f32 x y) (sdb w .f32 x y))) (w.drewN (nd .f32 (fbin .mul .f32 x y))) := run_binop rfl t .f32 x y w
theorem val_zero : Value.float .f32 0 = .float .f32 (pick .f32 0 0) := by rw [pick_num (by decide +kernel)]
theorem val_eq {a b s : Nat} (h : a = b) : Value.float .f32 (pick .f32 a s) = .float .f32 (pick .f32 b s) := by rw [h]
set_option maxRecDepth 100000 in
set_option maxHeartbeats 6400000 in
theorem solve_any (W0 : World) (xa : Option Addr) (n cap : Nat) (X : Nat → Nat) (hX : Rd W0 xa n X) (b near : Nat) (B g cs : Nat) (S Z : Nat → Nat) (w : World) (HB : Blw W0 w) (hB : W0.heap.size ≤ B) (hBw : B ≤ w.heap.size)
    (hown : w.ownsRow B 23 1 (.slice (some ⟨g, 0, none⟩) n cs) n (rowOf Z n)) (hL : LikeP Z S n) (h1 : 1 ≤ n) (h2 : n ≤ 48) :
    Calls Try.prog 84 #[.slice xa n cap, .float .f32 b, .float .f32 near, .slice (some ⟨g, 0, none⟩) n cs] w (Solved B g cs n (solR X b near S n) w) := by
  obtain ⟨i0, hi, hz0, hz1, hz2⟩ := info_parts infoF
  have hb : i0.bytes * n ≤ 281474976710656 := by rw [hz2]; omega
  have hm : n ≤ maxLen := by unfold maxLen; omega
  have hgl := own_lt hown
  have hBg := own_ge hown
  go_enter Try.func84, Try.ntmps84
  go_wp2_with (at_make; refine wpList_make_full _ rfl _ _ 22 rfl w.heap.size 23 i0 (.float .f32 0) 1 Try.underlying22 hi hz0 hz1 _ _ _ _ n rfl rfl rfl rfl hb hm (Nat.le_refl _) ?_)
  intro w1 hmid hgr
  rw [madeF] at hmid
  have B1 : Below w.heap.size w w1 := (Below.refl _ w).grown hgr (Nat.le_refl _) (fun _ h => by cases h)
  replace hown := own_below hown B1
  replace HB := HB.next B1
  clear hgr hb hm hi hz0 hz1 hz2
  go_wp2
  obtain ⟨xb, xo, hxa, hcx⟩ := hX
  have e := hxa (by omega)
  subst e
  have HC := Lib.hid hcx
  clear hxa hcx
  obtain ⟨G, hG⟩ : ∃ G, G = w.heap.size := ⟨_, rfl⟩
  have HG := Lib.hid hG
  rw [← hG] at hmid B1 hgl hBw ⊢
  clear hG
  have hne : g ≠ G := by omega
  have hne' : G ≠ g := by omega
  have HQ := Lib.hid (show Below B w w1 from B1.mono hBw)
  clear B1
  go_loopw [20] (fun i wr => ∃ (k : Nat) (M Y : Nat → Nat), k ≤ n ∧ i = .int .i64 k ∧ wr.ownsRow G 23 1 (.slice (some ⟨G, 0, none⟩) n n) n (rowOf M n) ∧ wr.ownsRow B 23 1 (.slice (some ⟨g, 0, none⟩) n cs) n (rowOf Y n) ∧ LikeP M (midR X b near) k ∧ LikeP Y (fun j => if j < k then rgtR X b near S j else S j) n ∧ Below B w1 wr) (fun i _ => n - (intOf i).toNat)
  case atStart => exact ⟨0, fun _ => 0, Z, Nat.zero_le _, rfl, hmid, hown, fun _ h => absurd h (Nat.not_lt_zero _), by simpa using hL, Below.refl _ _⟩
  case round =>
    obtain ⟨k, M, Y, hk, rfl, om, oy, lm, ly, hbl⟩ := hrel
    clear hmid hown hL
    have hbw := (Blw.nextB HB (hbl.mono hB)).out
    by_cases hlt : k < n
    · have hxb := World.block_lt_of_cell? W0 _ (HC.out k hlt)
      have r1 := (hbw.cell (p := ⟨xb, xo + k, none⟩) hxb).trans (HC.out k hlt)
      have hp := fbin_pick_l
      have hr := fbin_pick_r
      have ho := order_pick_l .f32
      by_cases hk0 : k = 0
      · subst hk0
        rw [Nat.add_zero] at r1
        have st := fun q u => own_store om (k := 0) (by omega) q u
        obtain ⟨Y0, hY0⟩ : ∃ Y0, fbin .sub .f32 (X 0) near = Y0 := ⟨_, rfl⟩
        cases hz : (FloatKind.f32.format.order Y0 0 == some .eq)
        · have HU := Lib.hid (show ∀ s, pick .f32 Y0 s = pick .f32 (midR X b near 0) s from fun s => by rw [uz_pick hz, ← hY0]; rfl)
          have HM := Lib.hid om
          have HN := Lib.hid oy
          have HO := Lib.hid hbl
          clear om oy hbl hbw
          go_wp2_with (first | ((with_reducible refine wpL_fbin ?_); refine ⟨_, _, _, rfl, rfl, rfl, fun s n => ?_⟩) | (go_at_call 93; go_in))
          go_roundw
          case rel => exact ⟨1, _, Y, by omega, by go_num, own_stored (own_drew HM.out _) 0 _, own_other (own_drew HN.out _) hne ((Only.refl _ _).setCell 0 _), lm.push (by exact HU.out _), ly.congr rgt_step0, Below.setCell (Below.drewN HO.out _) (by exact hBw) _⟩
          case measure => simp [intOf]; omega
        · have HU := Lib.hid (show 897988541 = pick .f32 (midR X b near 0) 0 by rw [show midR X b near 0 = uz Y0 by rw [← hY0]; rfl]; exact uz_pick0 hz)
          have HM := Lib.hid om
          have HN := Lib.hid oy
          have HO := Lib.hid hbl
          clear om oy hbl hbw
          go_wp2_with (first | ((with_reducible refine wpL_fbin ?_); refine ⟨_, _, _, rfl, rfl, rfl, fun s n => ?_⟩) | (go_at_call 93; go_in))
          go_roundw
          case rel => exact ⟨1, _, Y, by omega, by go_num, own_stored (own_drew HM.out _) 0 _, own_other (own_drew HN.out _) hne ((Only.refl _ _).setCell 0 _), lm.push (by exact HU.out), ly.congr rgt_step0, Below.setCell (Below.drewN HO.out _) (by exact hBw) _⟩
          case measure => simp [intOf]; omega
      · have hkp : (0 : Int) < (k : Int) := by omega
        have m1 := own_cell om (k := k - 1) (by omega)
        have y1 := own_cell oy (k := k) hlt
        have y2 := own_cell oy (k := k - 1) (by omega)
        obtain ⟨s1, e1⟩ := lm (k - 1) (by omega)
        obtain ⟨s2, e2⟩ := ly k hlt
        obtain ⟨s3, e3⟩ := ly (k - 1) (by omega)
        simp only [if_neg (show ¬ k < k by omega)] at e2
        simp only [if_pos (show k - 1 < k by omega)] at e3
        rw [e1] at m1
        rw [e2] at y1
        rw [e3] at y2
        clear e1 e2 e3
        obtain ⟨D1, hD1⟩ : ∃ D1, D1 = midR X b near (k - 1) := ⟨_, rfl⟩
        obtain ⟨R1, hR1⟩ : ∃ R1, R1 = rgtR X b near S (k - 1) := ⟨_, rfl⟩
        rw [← hD1] at m1
        rw [← hR1] at y2
        have hq := run_sub32
        have hm := run_mul32
        have st1 := fun q u => own_store oy hlt q u
        have st0 := fun u => own_store0 oy hlt u
        have st2 := fun a v u => own_store0 (own_other (own_drew om a) hne' ((Only.refl g (wr.drewN a)).setCell k v)) hlt u
        have HR := Lib.hid (show fbin .sub .f32 (S k) (fbin .mul .f32 (fbin .quo .f32 b D1) R1) = rgtR X b near S k by
          obtain ⟨j, rfl⟩ : ∃ j, k = j + 1 := ⟨k - 1, by omega⟩
          rw [hD1, hR1]; rfl)
        obtain ⟨Y0, hY0⟩ : ∃ Y0, fbin .sub .f32 (fbin .sub .f32 (X k) near) (fbin .mul .f32 (fbin .quo .f32 b D1) b) = Y0 := ⟨_, rfl⟩
        have hmd : midR X b near k = uz Y0 := by
          obtain ⟨j, rfl⟩ : ∃ j, k = j + 1 := ⟨k - 1, by omega⟩
          rw [← hY0, hD1]; rfl
        have HMD := Lib.hid hmd
        have HM := Lib.hid om
        have HN := Lib.hid oy
        have HO := Lib.hid hbl
        clear om oy hbl hbw hD1 hR1 hmd
        cases hz : (FloatKind.f32.format.order Y0 0 == some .eq)
        · go_wp2_with ((with_reducible refine wpL_fbin ?_); refine ⟨_, _, _, rfl, rfl, rfl, fun s n => ?_⟩)
          go_region
          all_goals go_wp2_with (first | ((with_reducible refine wpL_fbin ?_); refine ⟨_, _, _, rfl, rfl, rfl, fun s n => ?_⟩) | (go_at_call 93; go_in))
          all_goals go_roundw
          case rel => exact ⟨k + 1, _, _, by omega, by go_num, own_stored (own_other (own_drew HM.out _) hne' ((Only.refl g (wr.drewN _)).setCell k _)) k _, own_other (own_stored (own_drew HN.out _) k _) hne ((Only.refl G _).setCell k _), lm.push (by rw [HMD.out]; exact uz_pick hz), (ly.set (r := rgtR X b near S k) (by rw [HR.out])).congr (rgt_step k), Below.setCell (Below.setCell (Below.drewN HO.out _) (by exact hBg) _) (by exact hBw) _⟩
          case measure => simp [intOf]; omega
        · go_wp2_with ((with_reducible refine wpL_fbin ?_); refine ⟨_, _, _, rfl, rfl, rfl, fun s n => ?_⟩)
          go_region
          all_goals go_wp2_with (first | ((with_reducible refine wpL_fbin ?_); refine ⟨_, _, _, rfl, rfl, rfl, fun s n => ?_⟩) | (go_at_call 93; go_in))
          all_goals go_roundw
          case rel => exact ⟨k + 1, _, _, by omega, by go_num, own_stored (own_other (own_drew HM.out _) hne' ((Only.refl g (wr.drewN _)).setCell k _)) k _, own_other (own_stored (own_drew HN.out _) k _) hne ((Only.refl G _).setCell k _), lm.push (by rw [HMD.out]; exact uz_pick0 hz), (ly.set (r := rgtR X b near S k) (by rw [HR.out])).congr (rgt_step k), Below.setCell (Below.setCell (Below.drewN HO.out _) (by exact hBg) _) (by exact hBw) _⟩
          case measure => simp [intOf]; omega
    · have hkn : k = n := by omega
      subst hkn
      have ly2 : LikeP Y (fun j => if k ≤ j then solR X b near S k j else rgtR X b near S j) k := ly.congr fun j hj => by simp only [if_pos hj, if_neg (by omega : ¬ k ≤ j)]
      have HW1 := Lib.hid hbl
      obtain ⟨wo, rfl⟩ : ∃ wo : World, wo = wr := ⟨_, rfl⟩
      clear hlt hk hbl hbw ly
      go_wp2
      go_loopw [13, 14] (fun v i wr => ∃ (q s : Nat) (Y : Nat → Nat), q ≤ k ∧ i = .int .i64 ((q : Int) - 1) ∧ v = .float .f32 (pick .f32 (bckR X b near S k (k - q)) s) ∧ wr.ownsRow G 23 1 (.slice (some ⟨G, 0, none⟩) k k) k (rowOf M k) ∧ wr.ownsRow B 23 1 (.slice (some ⟨g, 0, none⟩) k cs) k (rowOf Y k) ∧ LikeP Y (fun j => if q ≤ j then solR X b near S k j else rgtR X b near S j) k ∧ Below B wo wr) (fun _ i _ => (intOf i + 1).toNat)
      case atStart => exact ⟨k, 0, Y, Nat.le_refl _, rfl, by rw [Nat.sub_self]; exact val_zero, om, oy, ly2, Below.refl _ _⟩
      case round =>
        obtain ⟨q, s0, Y, hq, rfl, rfl, om, oy, ly, hbl⟩ := hrel
        by_cases hlt : 0 < q
        · have hge : (0 : Int) ≤ (q : Int) - 1 := by omega
          have m1 := own_cell om (k := q - 1) (by omega)
          have y1 := own_cell oy (k := q - 1) (by omega)
          obtain ⟨s1, e1⟩ := lm (q - 1) (by omega)
          obtain ⟨s2, e2⟩ := ly (q - 1) (by omega)
          simp only [if_neg (show ¬ q ≤ q - 1 by omega)] at e2
          rw [e1] at m1
          rw [e2] at y1
          clear e1 e2
          have hsol := solR_at (X := X) (b := b) (near := near) (S := S) (n := k) (k := q - 1) (by omega)
          rw [show k - 1 - (q - 1) = k - q by omega] at hsol
          have hnx : bckR X b near S k (k - (q - 1)) = solR X b near S k (q - 1) := rfl
          obtain ⟨D1, hD1⟩ : ∃ D1, D1 = midR X b near (q - 1) := ⟨_, rfl⟩
          obtain ⟨R1, hR1⟩ : ∃ R1, R1 = rgtR X b near S (q - 1) := ⟨_, rfl⟩
          obtain ⟨K1, hK1⟩ : ∃ K1, K1 = bckR X b near S k (k - q) := ⟨_, rfl⟩
          rw [← hD1] at m1 hsol
          rw [← hR1] at y1 hsol
          rw [← hK1] at hsol ⊢
          have HS := Lib.hid hsol
          have HX := Lib.hid hnx
          have hp := fbin_pick_l
          have hr := fbin_pick_r
          have hsb := run_sub32
          have hmu := run_mul32
          have hqu := run_quo32
          have st1 := fun a u => own_store oy (k := q - 1) (by omega) a u
          have HM := Lib.hid om
          have HN := Lib.hid oy
          have HO := Lib.hid hbl
          clear om oy hbl hsol hnx hD1 hR1 hK1
          go_wp2_with fail
          go_region
          all_goals go_wp2
          all_goals go_roundw
          case rel => exact ⟨q - 1, _, _, by omega, by go_num, val_eq (by rw [HX.out, HS.out]), own_other (own_drew HM.out _) hne' ((Only.refl g (wr.drewN _)).setCell _ _), own_stored (own_drew HN.out _) (q - 1) _, (ly.set (r := solR X b near S k (q - 1)) (by rw [HS.out])).congr (sol_step q hlt), Below.setCell (Below.drewN HO.out _) (by exact hBg) _⟩
          case measure => simp [intOf]; omega
        · have hq0 : q = 0 := by omega
          subst hq0
          have hL2 := Lib.hid (ly.congr (R' := solR X b near S k) fun j hj => by simp only [if_pos (Nat.zero_le j)])
          go_wp2
          go_end0
          exact ⟨rfl, ⟨Y, oy, hL2.out⟩, HQ.out.trans (HW1.out.trans hbl)⟩
set_option maxHeartbeats 1600000 in
theorem sumSq_any (xa : Option Addr) (n cap : Nat) (Y R : Nat → Nat) (w : World) (hY : Rd w xa n Y) (hL : LikeP Y R n) (hn : n ≤ 1048576) :
    Calls Try.prog 85 #[.slice xa n cap] w (RetR .f32 (sqR R n) w) := by
  obtain ⟨xb, xo, hxa, hcx⟩ := hY
  have HY := Lib.hid hcx
  clear hcx
  go_enter Try.func85, Try.ntmps85
  go_wp2
  go_loopw [3, 8] (fun v i wr => ∃ k m s : Nat, k ≤ n ∧ i = .int .i64 k ∧ wr = w.drewN m ∧ v = .float .f32 (pick .f32 (sqR R k) s)) (fun _ i _ => n - (intOf i).toNat)
  case atStart => exact ⟨0, 0, 0, Nat.zero_le _, rfl, rfl, val_zero⟩
  case round =>
    obtain ⟨k, m, s, hk, rfl, rfl, rfl⟩ := hrel
    by_cases hlt : k < n
    · have e := hxa (by omega)
      subst e
      have h1 := HY.out k hlt
      obtain ⟨t, ht⟩ := hL k hlt
      rw [ht] at h1
      clear ht
      have hp := fbin_pick_l
      have hr := fbin_pick_r
      have hs : sqR R (k + 1) = fbin .add .f32 (sqR R k) (fbin .mul .f32 (R k) (R k)) := rfl
      obtain ⟨D, hD⟩ : ∃ D, D = sqR R k := ⟨_, rfl⟩
      obtain ⟨E, hE⟩ : ∃ E, E = R k := ⟨_, rfl⟩
      rw [← hD, ← hE] at hs
      rw [← hE] at h1
      rw [← hD]
      have HE := Lib.hid hs
      clear hD hs hE
      go_wp2_with ((with_reducible refine wpL_fbin ?_); refine ⟨_, _, _, rfl, rfl, rfl, fun s n => ?_⟩)
      go_roundw
      case rel => exact ⟨k + 1, _, _, by omega, by go_num, rfl, val_eq (by rw [HE.out])⟩
      case measure => simp [intOf]; omega
    · have hkn : k = n := by omega
      subst hkn
      go_wp2
      go_ret
      exact ⟨_, _, rfl, rfl⟩
end Go.Proofs.Ytdoaajmojfdjoab
