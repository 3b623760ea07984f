/- The state of a level, as the model tells it. -/
import Derived.Test.YtdoaajmojfdjoabStaJ
import Derived.Test.YtdoaajmojfdjoabPush0
import Derived.RegionTactic
namespace Go.Proofs.Ytdoaajmojfdjoab
open Go Go.ChangeShapes Go.WideShapes Go.ChangeAt Go.RowKit

/-- A list that begins as an empty one at the block g0, and lies from B on as soon as it has a number. -/
def MidOwn (w : World) (B g0 : Nat) (v : Value) (k : Nat) (X : Nat → Nat) : Prop := (k = 0 ∧ v = .slice (some ⟨g0, 0, none⟩) 0 0) ∨ (0 < k ∧ w.ownsRow B 23 1 v k (rowOf X k))
theorem own_some {w : World} {B n : Nat} {v : Value} {xs : List Value} (h : w.ownsRow B 23 1 v n xs) (hn : 1 ≤ n) : ∃ g cap, v = .slice (some ⟨g, 0, none⟩) n cap := by
  rcases h.2 with ⟨_, h2⟩ | ⟨g, cap, cur, h1, _⟩
  · omega
  · exact ⟨g, cap, h1⟩
theorem run_add32 (t : TypeId) (x y : Nat) (w : World) : (binOp .add t (.float .f32 x) (.float .f32 y)).run Try.prog w = .ok (.float .f32 (pick .f32 (fbin .add .f32 x y) (sdb w .f32 x y))) (w.drewN (nd .f32 (fbin .add .f32 x y))) := run_binop rfl t .f32 x y w
theorem sol_step2 {X : Nat → Nat} {b near : Nat} {S : Nat → Nat} {n : Nat} (k : Nat) (hk : 0 < k) : ∀ j, j < n → (fun j => if j = k - 1 then solR X b near S n (k - 1) else (fun j => if k ≤ j then solR X b near S n j else S j) j) j = (fun j => if k - 1 ≤ j then solR X b near S n j else S j) j := fun j _ => by
  by_cases h : j = k - 1
  · subst h; simp
  · by_cases h2 : k ≤ j
    · simp only [if_neg h, if_pos h2, if_pos (by omega : k - 1 ≤ j)]
    · simp only [if_neg h, if_neg h2, if_neg (by omega : ¬ k - 1 ≤ j)]
set_option maxRecDepth 100000 in
set_option maxHeartbeats 12800000 in
theorem specSta_yes (xa : Option Addr) (N cap : Nat) (X : Nat → Nat) (b E r : Nat) (w : World) (hX : Rd w xa N X) (hok : rowsOk X N b = true) (hE : isFin .f32 E = true) (hr1 : 1 ≤ r) (hr2 : r ≤ 8)
    (R : Nat → Nat) (M : Nat) (ok : Bool) (hR : R = staR X b (nearE E) N r) (hM : M = if finL R N = true then N else 0) (hk : ok = finL R N) :
    Calls Try.prog 30 #[.slice xa N cap, .float .f32 b, .float .f32 E, .int .i64 (r : Int)] w (RetStateOf R M ok w) := by
  obtain ⟨h1, h2⟩ := rowsOk_bounds hok
  have HR := Lib.hid hR
  have HM := Lib.hid hM
  have HK := Lib.hid hk
  clear hR hM hk
  have d1 : inB (r : Int) 1 8 = true := inB_yes (by omega) (by omega)
  obtain ⟨i0, hi, hz0, hz1, hz2⟩ := info_parts infoF
  go_enter Try.func30, Try.ntmps30
  go_wp2_with fail
  refine (l02Rows_any _ _ _ X b _ hX (by omega)).mono ?_
  rintro e w' ⟨rfl, q, rfl⟩
  go_wp2_with (first | (go_at_call 69; refine (l01Finite_any _ _).mono ?_; rintro e w' ⟨rfl, q, rfl⟩) | (go_at_call 75; refine (l00In_any _ _ _ _).mono ?_; rintro e w' ⟨rfl, rfl⟩))
  clear d1
  go_loopw [11, 12] (fun v i wr => ∃ (k : Nat) (Z : Nat → Nat), k ≤ N ∧ i = .int .i64 k ∧ wr.ownsRow w.heap.size 23 1 v k (rowOf Z k) ∧ LikeP Z (fun _ => 1065353216) k ∧ Below w.heap.size w wr) (fun _ i _ => N - (intOf i).toNat)
  case atStart => exact ⟨0, fun _ => 0, Nat.zero_le _, rfl, own_empty _ _, fun _ h => absurd h (Nat.not_lt_zero _), Below.alloc (Below.drewN (Below.refl _ _) _) (Nat.le_refl _) _⟩
  case round =>
    obtain ⟨k, Z, hk, rfl, oz, lz, hbl⟩ := hrel
    have hsz := hbl.size
    by_cases hlt : k < N
    · go_wp2_with (at_builtin; refine wpL_push hi hz0 hz1 hz2 rfl rfl rfl rfl (by exact oz) (by omega) (by exact hsz) ?_; intro v' w1 hown' hB')
      go_roundw
      case rel => exact ⟨k + 1, _, by omega, by go_num, hown', one_step lz, Below.trans hbl hB'⟩
      case measure => simp [intOf]; omega
    · have hkN : k = N := by omega
      subst hkN
      clear hlt hk
      obtain ⟨gs, cs, rfl⟩ := own_some oz h1
      go_wp2
      go_loopw [3] (fun i wr => ∃ (t : Nat) (Z : Nat → Nat), t ≤ r ∧ i = .int .i64 ((r : Int) - t) ∧ wr.ownsRow w.heap.size 23 1 (.slice (some ⟨gs, 0, none⟩) k cs) k (rowOf Z k) ∧ LikeP Z (staR X b (nearE E) k t) k ∧ Below w.heap.size w wr) (fun i _ => (intOf i).toNat)
      case atStart => exact ⟨0, Z, Nat.zero_le _, by simp, oz, lz, hbl⟩
      case round =>
        obtain ⟨t, Z, ht, rfl, oz, lz, hbl⟩ := hrel
        by_cases hlt : t < r
        · have hpos : (0 : Int) < (r : Int) - t := by omega
          obtain ⟨S, hS⟩ : ∃ S, S = staR X b (nearE E) k t := ⟨_, rfl⟩
          rw [← hS] at lz
          have hS1 : staR X b (nearE E) k (t + 1) = nextR X b (nearE E) S k := by rw [hS]; rfl
          have HS := Lib.hid hS1
          clear hS hS1
          have hgs := own_lt oz
          have hwr0 := hbl.size
          go_wp2_with (at_builtin; refine wpL_copy0 hi hz0 hz1 hz2 rfl rfl rfl rfl (by exact (rd_own oz).alloc2 _ _) h1 (by omega) ?_; intro vr w2 orr b2)
          have oz2 := own_below (own_alloc2 oz _ _) b2
          have hbl2 : Below w.heap.size w w2 := (Below.alloc (Below.alloc hbl hbl.size _) (by simp; have := hbl.size; omega) _).trans (b2.mono (by simp; have := hbl.size; omega))
          clear b2 oz hbl
          obtain ⟨gr, cr, rfl⟩ := own_some orr h1
          have hgr := own_lt orr
          have hgs2 := own_lt oz2
          have hge := own_ge orr
          rw [show ((wr.alloc (Obj.cells #[] 23)).alloc (Obj.cells #[] 23)).heap.size = wr.heap.size + 1 + 1 by simp] at orr hge
          have hwgr : w.heap.size ≤ gr := by omega
          have hwgs := own_ge oz2
          have hsr : gs ≠ gr := by omega
          have hrs : gr ≠ gs := by omega
          obtain ⟨Bm, hBm⟩ : ∃ Bm, Bm = w2.heap.size := ⟨_, rfl⟩
          have HBm := Lib.hid hBm
          rw [← hBm] at hgr hgs2
          have hwB : w.heap.size ≤ Bm := by rw [hBm]; exact hbl2.size
          clear hBm
          obtain ⟨H2, hH2⟩ : ∃ H2, H2 = wr.heap.size := ⟨_, rfl⟩
          have HH2 := Lib.hid hH2
          rw [← hH2] at orr hge hgs
          clear hH2
          go_loopw [13, 15] (fun vm i w3 => ∃ (q : Nat) (Mx Y : Nat → Nat), q ≤ k ∧ i = .int .i64 q ∧ MidOwn w3 Bm H2 vm q Mx ∧ LikeP Mx (midR X b (nearE E)) q ∧ w3.ownsRow (H2 + 1 + 1) 23 1 (.slice (some ⟨gr, 0, none⟩) k cr) k (rowOf Y k) ∧ LikeP Y (fun j => if j < q then rgtR X b (nearE E) S j else S j) k ∧ w3.ownsRow w.heap.size 23 1 (.slice (some ⟨gs, 0, none⟩) k cs) k (rowOf Z k) ∧ Below w.heap.size w w3 ∧ Bm ≤ w3.heap.size) (fun _ i _ => k - (intOf i).toNat)
          case atStart => exact ⟨0, fun _ => 0, Z, Nat.zero_le _, rfl, .inl ⟨rfl, by rw [HH2.out]⟩, fun _ h => absurd h (Nat.not_lt_zero _), orr, by simpa using lz, oz2, hbl2, Nat.le_of_eq HBm.out⟩
          case round =>
            obtain ⟨q, Mx, Y, hq, rfl, om, lm, oy, ly, oz, hbl, hsz⟩ := hrel
            clear orr oz2 hbl2
            have hbw : Blw w wr := Blw.nextB (Blw.refl w) hbl
            by_cases hql : q < k
            · obtain ⟨xb, xo, hxa, r0⟩ := hX.cell hql
              subst hxa
              have r1 := (hbl.cell (p := ⟨xb, xo + q, none⟩) (World.block_lt_of_cell? w _ r0)).trans r0
              have hp := fbin_pick_l
              have hr := fbin_pick_r
              have ho := order_pick_l .f32
              clear r0
              by_cases hq0 : q = 0
              · subst hq0
                obtain ⟨_, rfl⟩ : (0 : Nat) = 0 ∧ _ := by
                  rcases om with h | ⟨h, _⟩
                  · exact h
                  · omega
                rw [Nat.add_zero] at r1
                obtain ⟨Y0, hY0⟩ : ∃ Y0, fbin .sub .f32 (X 0) (fbin .sub .f32 E 981668463) = Y0 := ⟨_, rfl⟩
                have HO := Lib.hid oy
                have HZ := Lib.hid oz
                have HB := Lib.hid hbl
                have HW := Lib.hid hsz
                clear oy oz hbl om hbw hsz
                cases hz : (FloatKind.f32.format.order Y0 0 == some .eq)
                · have HU := Lib.hid (show ∀ s, pick .f32 Y0 s = pick .f32 (midR X b (nearE E) 0) s from fun s => by rw [uz_pick hz, ← hY0]; rfl)
                  go_wp2_with (first | ((with_reducible refine wpL_fbin ?_); refine ⟨_, _, _, rfl, rfl, rfl, fun s n => ?_⟩) | (go_at_call 82; go_in) | (at_builtin; refine wpL_push0 hi hz0 hz1 hz2 rfl rfl rfl rfl Mx ?_; intro v' w1 own' b'))
                  go_roundw
                  case rel => exact ⟨1, _, Y, by omega, by go_num, .inr ⟨by omega, own_mono0 own' (by exact HW.out)⟩, lm.push (by exact HU.out _), own_below (own_drew HO.out _) b', ly.congr rgt_step0, own_below (own_drew HZ.out _) b', (Below.drewN HB.out _).trans (b'.mono (by exact HB.out.size)), Nat.le_trans (by exact HW.out) b'.size⟩
                  case measure => simp [intOf]; omega
                · have HU := Lib.hid (show 897988541 = pick .f32 (midR X b (nearE E) 0) 0 by rw [show midR X b (nearE E) 0 = uz Y0 by rw [← hY0]; rfl]; exact uz_pick0 hz)
                  go_wp2_with (first | ((with_reducible refine wpL_fbin ?_); refine ⟨_, _, _, rfl, rfl, rfl, fun s n => ?_⟩) | (go_at_call 82; go_in) | (at_builtin; refine wpL_push0 hi hz0 hz1 hz2 rfl rfl rfl rfl Mx ?_; intro v' w1 own' b'))
                  go_roundw
                  case rel => exact ⟨1, _, Y, by omega, by go_num, .inr ⟨by omega, own_mono0 own' (by exact HW.out)⟩, lm.push (by exact HU.out), own_below (own_drew HO.out _) b', ly.congr rgt_step0, own_below (own_drew HZ.out _) b', (Below.drewN HB.out _).trans (b'.mono (by exact HB.out.size)), Nat.le_trans (by exact HW.out) b'.size⟩
                  case measure => simp [intOf]; omega
              · have hqp : (0 : Int) < (q : Int) := by omega
                replace om : wr.ownsRow Bm 23 1 u13 q (rowOf Mx q) := by
                  rcases om with ⟨h, _⟩ | ⟨_, h⟩
                  · omega
                  · exact h
                obtain ⟨gm, cm, rfl⟩ := own_some om (by omega)
                have hgm := own_ge om
                have hmr : gm ≠ gr := by omega
                have m1 := own_cell om (k := q - 1) (by omega)
                have y1 := own_cell oy (k := q) hql
                have y2 := own_cell oy (k := q - 1) (by omega)
                obtain ⟨s1, e1⟩ := lm (q - 1) (by omega)
                obtain ⟨s2, e2⟩ := ly q hql
                obtain ⟨s3, e3⟩ := ly (q - 1) (by omega)
                simp only [if_neg (show ¬ q < q by omega)] at e2
                simp only [if_pos (show q - 1 < q by omega)] at e3
                rw [e1] at m1
                rw [e2] at y1
                rw [e3] at y2
                clear e1 e2 e3
                obtain ⟨D1, hD1⟩ : ∃ D1, D1 = midR X b (nearE E) (q - 1) := ⟨_, rfl⟩
                obtain ⟨R1, hR1⟩ : ∃ R1, R1 = rgtR X b (nearE E) S (q - 1) := ⟨_, rfl⟩
                rw [← hD1] at m1
                rw [← hR1] at y2
                have hq := run_sub32
                have hm := run_mul32
                have st1 := fun q' u => own_store oy hql q' u
                have HRR := Lib.hid (show fbin .sub .f32 (S q) (fbin .mul .f32 (fbin .quo .f32 b D1) R1) = rgtR X b (nearE E) S q by
                  obtain ⟨j, rfl⟩ : ∃ j, q = j + 1 := ⟨q - 1, by omega⟩
                  rw [hD1, hR1]; rfl)
                obtain ⟨Y0, hY0⟩ : ∃ Y0, fbin .sub .f32 (fbin .sub .f32 (X q) (fbin .sub .f32 E 981668463)) (fbin .mul .f32 (fbin .quo .f32 b D1) b) = Y0 := ⟨_, rfl⟩
                have hmd : midR X b (nearE E) q = uz Y0 := by
                  obtain ⟨j, rfl⟩ : ∃ j, q = j + 1 := ⟨q - 1, by omega⟩
                  rw [← hY0, hD1]; rfl
                have HMD := Lib.hid hmd
                have HMM := Lib.hid om
                have HO := Lib.hid oy
                have HZ := Lib.hid oz
                have HB := Lib.hid hbl
                have HW := Lib.hid hsz
                clear oy oz hbl om hbw hsz hD1 hR1 hmd
                cases hz : (FloatKind.f32.format.order Y0 0 == some .eq)
                · go_wp2_with ((with_reducible refine wpL_fbin ?_); refine ⟨_, _, _, rfl, rfl, rfl, fun s n => ?_⟩)
                  go_region
                  all_goals go_wp2_with (first | ((with_reducible refine wpL_fbin ?_); refine ⟨_, _, _, rfl, rfl, rfl, fun s n => ?_⟩) | (go_at_call 82; go_in) | (at_builtin; refine wpL_pushA hi hz0 hz1 hz2 rfl rfl rfl rfl (by simp) (by exact own_other (own_drew HMM.out _) hmr ((Only.refl gr (wr.drewN _)).setCell q _)) (by omega) (by rw [Deep.nblk_setCell]; exact HW.out) ?_; intro v' w1 own' b'))
                  all_goals go_roundw
                  case rel => exact ⟨q + 1, _, _, by omega, by go_num, .inr ⟨by omega, own'⟩, lm.push (by rw [HMD.out]; exact uz_pick hz), own_low (own_stored (own_drew HO.out _) q _) hgr b', (ly.set (r := rgtR X b (nearE E) S q) (by rw [HRR.out])).congr (rgt_step q), own_low (own_other (own_drew HZ.out _) hsr ((Only.refl gr (wr.drewN _)).setCell q _)) hgs2 b', (Below.setCell (Below.drewN HB.out _) (by exact hwgr) _).trans (b'.mono hwB), Nat.le_trans (by rw [Deep.nblk_setCell]; exact HW.out) b'.size⟩
                  case measure => simp [intOf]; omega
                · go_wp2_with ((with_reducible refine wpL_fbin ?_); refine ⟨_, _, _, rfl, rfl, rfl, fun s n => ?_⟩)
                  go_region
                  all_goals go_wp2_with (first | ((with_reducible refine wpL_fbin ?_); refine ⟨_, _, _, rfl, rfl, rfl, fun s n => ?_⟩) | (go_at_call 82; go_in) | (at_builtin; refine wpL_pushA hi hz0 hz1 hz2 rfl rfl rfl rfl (by simp) (by exact own_other (own_drew HMM.out _) hmr ((Only.refl gr (wr.drewN _)).setCell q _)) (by omega) (by rw [Deep.nblk_setCell]; exact HW.out) ?_; intro v' w1 own' b'))
                  all_goals go_roundw
                  case rel => exact ⟨q + 1, _, _, by omega, by go_num, .inr ⟨by omega, own'⟩, lm.push (by rw [HMD.out]; exact uz_pick0 hz), own_low (own_stored (own_drew HO.out _) q _) hgr b', (ly.set (r := rgtR X b (nearE E) S q) (by rw [HRR.out])).congr (rgt_step q), own_low (own_other (own_drew HZ.out _) hsr ((Only.refl gr (wr.drewN _)).setCell q _)) hgs2 b', (Below.setCell (Below.drewN HB.out _) (by exact hwgr) _).trans (b'.mono hwB), Nat.le_trans (by rw [Deep.nblk_setCell]; exact HW.out) b'.size⟩
                  case measure => simp [intOf]; omega
            · have hqk : q = k := by omega
              subst hqk
              replace om : wr.ownsRow Bm 23 1 u13 q (rowOf Mx q) := by
                rcases om with ⟨h, _⟩ | ⟨_, h⟩
                · omega
                · exact h
              obtain ⟨gm, cm, rfl⟩ := own_some om h1
              have hgm := own_ge om
              have hms : gm ≠ gs := by omega
              have ly2 : LikeP Y (rgtR X b (nearE E) S) q := ly.congr fun j hj => by simp only [if_pos hj]
              clear ly hql hq
              go_wp2
              go_loopw [18, 20] (fun nx i w4 => ∃ (p s : Nat) (Z : Nat → Nat), p ≤ q ∧ i = .int .i64 ((p : Int) - 1) ∧ nx = .float .f32 (pick .f32 (bckR X b (nearE E) S q (q - p)) s) ∧ w4.ownsRow Bm 23 1 (.slice (some ⟨gm, 0, none⟩) q cm) q (rowOf Mx q) ∧ w4.ownsRow (H2 + 1 + 1) 23 1 (.slice (some ⟨gr, 0, none⟩) q cr) q (rowOf Y q) ∧ w4.ownsRow w.heap.size 23 1 (.slice (some ⟨gs, 0, none⟩) q cs) q (rowOf Z q) ∧ LikeP Z (fun j => if p ≤ j then solR X b (nearE E) S q j else S j) q ∧ Below w.heap.size w w4) (fun _ i _ => (intOf i + 1).toNat)
              case atStart => exact ⟨q, 0, Z, Nat.le_refl _, rfl, by rw [Nat.sub_self]; exact val_zero, om, oy, oz, lz.congr fun j hj => by simp only [if_neg (by omega : ¬ q ≤ j)], hbl⟩
              case round =>
                obtain ⟨p, s0, Z, hp0, rfl, rfl, om, oy, oz, lz4, hbl⟩ := hrel
                by_cases hlt2 : 0 < p
                · have hge0 : (0 : Int) ≤ (p : Int) - 1 := by omega
                  have m1 := own_cell om (k := p - 1) (by omega)
                  have y1 := own_cell oy (k := p - 1) (by omega)
                  obtain ⟨s1, e1⟩ := lm (p - 1) (by omega)
                  obtain ⟨s2, e2⟩ := ly2 (p - 1) (by omega)
                  rw [e1] at m1
                  rw [e2] at y1
                  clear e1 e2
                  have hsol := solR_at (X := X) (b := b) (near := nearE E) (S := S) (n := q) (k := p - 1) (by omega)
                  rw [show q - 1 - (p - 1) = q - p by omega] at hsol
                  have hnx : bckR X b (nearE E) S q (q - (p - 1)) = solR X b (nearE E) S q (p - 1) := rfl
                  obtain ⟨D1, hD1⟩ : ∃ D1, D1 = midR X b (nearE E) (p - 1) := ⟨_, rfl⟩
                  obtain ⟨R1, hR1⟩ : ∃ R1, R1 = rgtR X b (nearE E) S (p - 1) := ⟨_, rfl⟩
                  obtain ⟨K1, hK1⟩ : ∃ K1, K1 = bckR X b (nearE E) S q (q - p) := ⟨_, rfl⟩
                  rw [← hD1] at m1 hsol
                  rw [← hR1] at y1 hsol
                  rw [← hK1] at hsol ⊢
                  have HSo := Lib.hid hsol
                  have HNx := Lib.hid hnx
                  have hp := fbin_pick_l
                  have hr := fbin_pick_r
                  have hsb := run_sub32
                  have hmu := run_mul32
                  have hqu := run_quo32
                  have st1 := fun a u => own_store oz (k := p - 1) (by omega) a u
                  have HMM := Lib.hid om
                  have HO := Lib.hid oy
                  have HZ := Lib.hid oz
                  have HB := Lib.hid hbl
                  clear om oy oz hbl hsol hnx hD1 hR1 hK1
                  go_wp2_with fail
                  go_region
                  all_goals go_wp2
                  all_goals go_roundw
                  case rel => exact ⟨p - 1, _, _, by omega, by go_num, val_eq (by rw [HNx.out, HSo.out]), own_other (own_drew HMM.out _) hms ((Only.refl gs (wr.drewN _)).setCell _ _), own_other (own_drew HO.out _) hrs ((Only.refl gs (wr.drewN _)).setCell _ _), own_stored (own_drew HZ.out _) (p - 1) _, (lz4.set (r := solR X b (nearE E) S q (p - 1)) (by rw [HSo.out])).congr (sol_step2 p hlt2), Below.setCell (Below.drewN HB.out _) (by exact hwgs) _⟩
                  case measure => simp [intOf]; omega
                · have hp00 : p = 0 := by omega
                  subst hp00
                  have lz5 : LikeP Z (solR X b (nearE E) S q) q := lz4.congr fun j hj => by simp only [if_pos (Nat.zero_le j)]
                  clear lz4 om oy hp0 hlt2
                  go_wp2
                  have hzc := fun j (hj : j < q) => own_cell oz (k := j) hj
                  have HC := Lib.hid hzc
                  clear hzc
                  go_loopw [19, 21] (fun v i w5 => ∃ c m s : Nat, c ≤ q ∧ i = .int .i64 c ∧ w5 = wr.drewN m ∧ v = .float .f32 (pick .f32 (sqR (solR X b (nearE E) S q) c) s)) (fun _ i _ => q - (intOf i).toNat)
                  case atStart => exact ⟨0, 0, 0, Nat.zero_le _, rfl, rfl, val_zero⟩
                  case round =>
                    obtain ⟨c, m, s5, hc, rfl, rfl, rfl⟩ := hrel
                    by_cases hlt3 : c < q
                    · have z1 := HC.out c hlt3
                      obtain ⟨s6, e6⟩ := lz5 c hlt3
                      rw [e6] at z1
                      clear e6
                      obtain ⟨V, hV⟩ : ∃ V, V = solR X b (nearE E) S q c := ⟨_, rfl⟩
                      obtain ⟨U, hU⟩ : ∃ U, U = sqR (solR X b (nearE E) S q) c := ⟨_, rfl⟩
                      have HE := Lib.hid (show sqR (solR X b (nearE E) S q) (c + 1) = fbin .add .f32 U (fbin .mul .f32 V V) by rw [hU, hV]; rfl)
                      rw [← hV] at z1
                      rw [← hU]
                      clear hV hU
                      have hp := fbin_pick_l
                      have hr := fbin_pick_r
                      have hmu := run_mul32
                      have had := run_add32
                      go_wp2_with fail
                      go_region
                      all_goals go_wp2
                      all_goals go_roundw
                      all_goals first | exact ⟨c + 1, _, _, by omega, by go_num, rfl, val_eq (by rw [HE.out])⟩ | (simp [intOf]; omega)
                    · have hcq : c = q := by omega
                      subst hcq
                      go_wp2_with fail
                      refine (l01Sqrt_any _ _).mono ?_
                      rw [rootT_pick]
                      rintro e0 w5 ⟨s2, q2, rfl, rfl⟩
                      obtain ⟨L, hL⟩ : ∃ L, L = rootT (sqR (solR X b (nearE E) S c) c) := ⟨_, rfl⟩
                      rw [← hL]
                      have HL := Lib.hid hL
                      have oz5 : ((wr.drewN m).drewN q2).ownsRow w.heap.size 23 1 (.slice (some ⟨gs, 0, none⟩) c cs) c (rowOf Z c) := oz
                      have hbl5 : Below w.heap.size w ((wr.drewN m).drewN q2) := Below.drewN (Below.drewN hbl _) _
                      rw [World.drewN_drewN] at oz5 hbl5
                      clear hL hlt3 hc
                      go_wp2
                      go_loopw [23] (fun i w6 => ∃ (d : Nat) (Z : Nat → Nat), d ≤ c ∧ i = .int .i64 d ∧ w6.ownsRow w.heap.size 23 1 (.slice (some ⟨gs, 0, none⟩) c cs) c (rowOf Z c) ∧ LikeP Z (fun j => if j < d then nextR X b (nearE E) S c j else solR X b (nearE E) S c j) c ∧ Below w.heap.size w w6) (fun i _ => c - (intOf i).toNat)
                      case atStart => exact ⟨0, Z, Nat.zero_le _, rfl, oz5, by simpa using lz5, hbl5⟩
                      case round =>
                        obtain ⟨d, Z, hd, rfl, oz, lz, hbl⟩ := hrel
                        by_cases hdl : d < c
                        · have z1 := own_cell oz hdl
                          obtain ⟨s3, e3⟩ := lz d hdl
                          simp only [if_neg (show ¬ d < d by omega)] at e3
                          rw [e3] at z1
                          clear e3
                          obtain ⟨V, hV⟩ : ∃ V, V = solR X b (nearE E) S c d := ⟨_, rfl⟩
                          rw [← hV] at z1
                          have HV := Lib.hid (show fbin .quo .f32 V L = nextR X b (nearE E) S c d by rw [hV, HL.out]; rfl)
                          have hp := fbin_pick_l
                          have hr := fbin_pick_r
                          have st := fun a u => own_store oz hdl a u
                          have HO := Lib.hid oz
                          have HB3 := Lib.hid hbl
                          clear oz hbl hV
                          go_wp2_with ((with_reducible refine wpL_fbin ?_); refine ⟨_, _, _, rfl, rfl, rfl, fun s n => ?_⟩)
                          go_roundw
                          case rel => exact ⟨d + 1, _, by omega, by go_num, own_stored (own_drew HO.out _) d _, (lz.set (r := nextR X b (nearE E) S c d) (by rw [HV.out])).congr (next_step d), Below.setCell (Below.drewN HB3.out _) (by exact hwgs) _⟩
                          case measure => simp [intOf]; omega
                        · have hdc : d = c := by omega
                          subst hdc
                          have lz6 : LikeP Z (staR X b (nearE E) d (t + 1)) d := lz.congr fun j hj => by rw [HS.out]; simp only [if_pos hj]
                          have HZ := Lib.hid lz6
                          go_wp2
                          go_roundw
                          case rel => exact ⟨t + 1, Z, by omega, by go_num, oz, HZ.out, hbl⟩
                          case measure => simp [intOf]; omega
        · have htr : t = r := by omega
          subst htr
          have hneg : ¬ (0 : Int) < (t : Int) - t := by omega
          have lz' : LikeP Z R k := by rw [HR.out]; exact lz
          have e := finL_like lz'.like
          clear lz
          cases hf : finL Z k
          · obtain rfl : M = 0 := by rw [HM.out, ← e, hf]; rfl
            obtain rfl : ok = false := by rw [HK.out, ← e, hf]
            clear e
            go_wp2_with (go_at_call 81; refine (l02List_any _ w.heap.size k Z _ (by exact oz) (by omega)).mono ?_; rw [hf]; rintro e w' ⟨rfl, q, rfl⟩)
            go_ret2
            exact ⟨_, Z, rfl, World.ownsRow_nil _ _ _ _, fun _ h => absurd h (Nat.not_lt_zero _), Nat.zero_le _, Below.drewN hbl _⟩
          · obtain rfl : M = k := by rw [HM.out, ← e, hf]; rfl
            obtain rfl : ok = true := by rw [HK.out, ← e, hf]
            clear e
            go_wp2_with (go_at_call 81; refine (l02List_any _ w.heap.size M Z _ (by exact oz) (by omega)).mono ?_; rw [hf]; rintro e w' ⟨rfl, q, rfl⟩)
            go_ret2
            exact ⟨_, Z, rfl, oz, lz'.like, by omega, Below.drewN hbl _⟩
end Go.Proofs.Ytdoaajmojfdjoab
