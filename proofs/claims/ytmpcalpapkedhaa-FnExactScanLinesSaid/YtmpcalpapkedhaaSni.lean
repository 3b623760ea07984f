
/- The lines of a scan: as the program makes them. -/
import Derived.Test.YtmpcalpapkedhaaSad
import Derived.Test.YtmpcalpapkedhaaPushS
import Derived.Test.YtmpcalpapkedhaaLaw
namespace Go.Proofs.Ytmpcalpapkedhaa
set_option linter.all false
open Go Go.ChangeShapes Go.WideShapes Go.ChangeAt Go.RowKit

set_option maxHeartbeats 800000 in
theorem turnsOf_any (n k i : Nat) (hn : 2 ≤ n) (hn2 : n ≤ 64) (hk : k ≤ 32) (hi : i ≤ 64) (w : World) :
    Calls Try.prog 83 #[.int .i64 (k : Int), .int .i64 (i : Int), .int .i64 (n : Int)] w fun e w' => e = .returned (.float .f64 (snQ n k i)) ∧ ∃ m, w' = w.drewN m := by
  have hwr := ki_wrap hk hi
  obtain ⟨Y, hY⟩ : ∃ Y, snQ n k i = Y := ⟨_, rfl⟩
  have hZ1 : fbin .quo .f64 (floatOfInt .f64 ((k : Int) * (i : Int))) (floatOfInt .f64 (n : Int)) = Y := hY
  have hpk : ∀ s, pick .f64 Y s = Y := fun s => by rw [← hY]; exact snQ_pick hn hn2 hk hi s
  rw [hY]
  clear hY hn hn2 hk hi
  go_enter Try.func83, Try.ntmps83
  go_wp2_with (first | ((with_reducible refine wpL_fbin ?_); refine ⟨_, _, _, rfl, rfl, rfl, fun s n => ?_⟩))
  go_ret
  exact ⟨rfl, _, rfl⟩
/-- A row of complex numbers of the call's own: a number is laid at place c. -/
theorem ownC_store {w : World} {B G n : Nat} {A C : Nat → Nat} (h : w.ownsRow B 98 1 (.slice (some ⟨G, 0, none⟩) n n) n (rowC A C n)) {c : Nat} (hc : c < n) (q u v : Nat) :
    (store ⟨G, c, none⟩ (.complex .f32 u v)).run Try.prog (w.drewN q) = .ok () ((w.drewN q).setCell ⟨G, c, none⟩ (.complex .f32 u v)) := by
  have hcl : w.cell? ⟨G, c, none⟩ = some (.complex .f32 (A c) (C c)) := by rw [h.cellAt c (by omega), rowC_get _ _ _ _ hc]
  exact store_cplx (w.drewN q) ⟨G, c, none⟩ u v hcl (h.frozenAt c)
theorem ownC_stored {w : World} {B G n : Nat} {A C : Nat → Nat} (h : w.ownsRow B 98 1 (.slice (some ⟨G, 0, none⟩) n n) n (rowC A C n)) (c u v : Nat) :
    (w.setCell ⟨G, c, none⟩ (.complex .f32 u v)).ownsRow B 98 1 (.slice (some ⟨G, 0, none⟩) n n) n (rowC (fun i => if i = c then u else A i) (fun i => if i = c then v else C i) n) := by
  have hst := (h.stored c (.complex .f32 u v)).1
  rwa [rowC_set] at hst
set_option maxRecDepth 100000 in
set_option maxHeartbeats 6400000 in
theorem implSn_yes (xa : Option Addr) (n cx : Nat) (X : Nat → Nat) (w : World) (hX : Rd w xa n X) (hb : binB X n 2 = true) (H M p : Nat) (ok : Bool) (hH : H = n / 2) (hM : M = H + 1) (hok : Hid (ok = finC (snU X n) (snV X n) M)) (hp : Hid (p = if ok = true then M else 0)) :
    Calls Try.prog 23 #[.slice xa n cx] w (RetU p (snU X n) (snV X n) ok w) := by
  obtain ⟨i0, hi, hz0, hz1, hz2⟩ := infoC_parts
  obtain ⟨h2, h64, _⟩ := binB_at hb
  have HBN := Lib.hid (fun w hX => isScan_any xa n cx X w hX (by omega))
  rw [hb] at HBN
  obtain ⟨xb, xo, hxa, hcx⟩ := id hX
  have HX := Lib.hid hcx
  have hM33 : M ≤ 33 := by omega
  have hdv : (n : Int).tdiv 2 = (H : Int) := by rw [hH]; simp <;> omega
  have hM1 : (H : Int) + 1 = (M : Int) := by omega
  have HM := Lib.hid (show 2 ≤ n ∧ n ≤ 64 ∧ M ≤ 33 from ⟨by omega, h64, hM33⟩)
  have hbb : i0.bytes * M ≤ 281474976710656 := by rw [hz2]; omega
  have hm : M ≤ maxLen := by unfold maxLen; omega
  have hN0 : (0 : Int) ≤ (M : Int) := by omega
  clear hcx hH hM h2 h64 hb
  go_enter Try.func23, Try.ntmps23
  go_wp2_with fail
  refine (HBN.out _ (by exact hX)).mono ?_
  rintro e w1 ⟨rfl, q, rfl⟩
  go_wp2_with (at_make; refine wpList_make_full _ rfl _ _ 104 rfl w.heap.size 98 i0 (.complex .f32 0 0) 1 Try.underlying104 hi hz0 hz1 _ _ _ _ M rfl rfl rfl rfl hbb hm (Nat.le_refl _) ?_)
  intro w2 hown hgr
  rw [madeC] at hown
  have hB : Below w.heap.size w w2 := (Below.drewN (Below.refl _ w) _).trans ((Below.refl _ _).grown hgr (Nat.le_refl _) (fun _ h => by cases h))
  have hown' : w2.ownsRow w.heap.size 98 1 (.slice (some ⟨w.heap.size, 0, none⟩) M M) M (rowC (fun _ => 0) (fun _ => 0) M) := hown
  clear hgr hbb hm hi hz0 hz1 hz2 HBN hM33 hM1 hdv hown
  have h00 : LikeP (fun _ => 0) (fun p => if p < 0 then snU X n p else 0) M ∧ LikeP (fun _ => 0) (fun p => if p < 0 then snV X n p else 0) M :=
    ⟨fun j _ => ⟨0, by show (0 : Nat) = pick .f32 (if j < 0 then snU X n j else 0) 0; rw [if_neg (Nat.not_lt_zero _), pick_num (by decide +kernel)]⟩,
     fun j _ => ⟨0, by show (0 : Nat) = pick .f32 (if j < 0 then snV X n j else 0) 0; rw [if_neg (Nat.not_lt_zero _), pick_num (by decide +kernel)]⟩⟩
  go_wp2
  go_loopw [19] (fun i wr => ∃ (c : Nat) (A B : Nat → Nat), c ≤ M ∧ i = .int .i64 (c : Int) ∧ wr.ownsRow w.heap.size 98 1 (.slice (some ⟨w.heap.size, 0, none⟩) M M) M (rowC A B M) ∧ LikeP A (fun p => if p < c then snU X n p else 0) M ∧ LikeP B (fun p => if p < c then snV X n p else 0) M ∧ Below w.heap.size w wr) (fun i _ => M - (intOf i).toNat)
  case atStart => exact ⟨0, _, _, Nat.zero_le _, rfl, hown', h00.1, h00.2, hB⟩
  case round =>
    obtain ⟨c, A, B, hc, rfl, hownk, hL, hL', hBk⟩ := hrel
    clear hown' hB h00
    by_cases hltc : c < M
    · obtain ⟨wu, hwu⟩ : ∃ wu, wu = wr := ⟨_, rfl⟩
      subst hwu
      have HOk := Lib.hid hownk
      have HLk := Lib.hid hL
      have HLk' := Lib.hid hL'
      have HBk := Lib.hid hBk
      have hcN : (c : Int) < (M : Int) := by omega
      have HC := Lib.hid (show c ≤ 32 by have := HM.out; omega)
      clear hownk hL hL' hBk
      go_wp2
      go_loopw [24] (fun i wr => ∃ (k : Nat) (Y V : Nat → Nat), k ≤ n ∧ i = .int .i64 (k : Int) ∧ wr.ownsRow w.heap.size 98 1 (.slice (some ⟨w.heap.size, 0, none⟩) M M) M (rowC Y V M) ∧ LikeP Y (fun p => if p < c then snU X n p else if p = c then snR X n c k else 0) M ∧ LikeP V (fun p => if p < c then snV X n p else if p = c then snI X n c k else 0) M ∧ Below w.heap.size w wr) (fun i _ => n - (intOf i).toNat)
      case atStart => exact ⟨0, A, B, Nat.zero_le _, rfl, HOk.out, HLk.out.congr (fun p _ => by
        by_cases h : p < c
        · rw [if_pos h, if_pos h]
        · rw [if_neg h, if_neg h]; split <;> rfl), HLk'.out.congr (fun p _ => by
        by_cases h : p < c
        · rw [if_pos h, if_pos h]
        · rw [if_neg h, if_neg h]; split <;> rfl), HBk.out⟩
      case round =>
        obtain ⟨k, Y, V, hkm, rfl, hownj, hLj, hLj', hBj⟩ := hrel
        by_cases hltk : k < n
        · have e := hxa (by omega)
          subst e
          have hx1 := HX.out k hltk
          have hxl := World.block_lt_of_cell? w _ hx1
          have hx2 : wr.cell? ⟨xb, xo + k, none⟩ = some (.float .f32 (X k)) := (hBj.cell (p := ⟨xb, xo + k, none⟩) hxl).trans hx1
          have hkm' : (k : Int) < (n : Int) := by omega
          have hk64 : k ≤ 64 := by have := HM.out; omega
          have h5 : wr.cell? ⟨w.heap.size, c, none⟩ = some (.complex .f32 (Y c) (V c)) := by rw [hownj.cellAt c (by omega), rowC_get _ _ _ _ hltc]
          obtain ⟨s, hs⟩ := hLj c hltc
          replace hs : Y c = pick .f32 (snR X n c k) s := by
            rw [hs]
            show pick .f32 (if c < c then _ else if c = c then _ else _) s = _
            rw [if_neg (Nat.lt_irrefl _), if_pos rfl]
          obtain ⟨t, ht⟩ := hLj' c hltc
          replace ht : V c = pick .f32 (snI X n c k) t := by
            rw [ht]
            show pick .f32 (if c < c then _ else if c = c then _ else _) t = _
            rw [if_neg (Nat.lt_irrefl _), if_pos rfl]
          have st := fun q u v => ownC_store hownj hltc q u v
          obtain ⟨z, hz⟩ : ∃ z, z = Y c := ⟨_, rfl⟩
          obtain ⟨y, hy⟩ : ∃ y, y = V c := ⟨_, rfl⟩
          rw [← hz] at hs h5
          rw [← hy] at ht h5
          have HOj := Lib.hid hownj
          have HLj := Lib.hid hLj
          have HLj' := Lib.hid hLj'
          have HBj := Lib.hid hBj
          obtain ⟨W1, hW1⟩ : ∃ W1, snQ n c k = W1 := ⟨_, rfl⟩
          have HT := Lib.hid (fun w => turnsOf_any n c k HM.out.1 HM.out.2.1 HC.out hk64 w)
          rw [hW1] at HT
          obtain ⟨P, hP⟩ : ∃ P, (phaT (Op.negFloat .f64 W1)).1 = P := ⟨_, rfl⟩
          obtain ⟨Q, hQ⟩ : ∃ Q, (phaT (Op.negFloat .f64 W1)).2 = Q := ⟨_, rfl⟩
          have HP := Lib.hid (show ∀ w, Calls Try.prog 74 #[.float .f64 (Op.negFloat .f64 W1)] w (RetC P Q w) from fun w => by rw [← hP, ← hQ]; exact implPha_any _ (by rw [← hW1]; exact snN_lt _ _ _) w)
          have hpl := fun op => fbin_pick_l op .f32
          have hpr := fun op => fbin_pick_r op .f32
          obtain ⟨D1, hD1⟩ : ∃ D, fbin .add .f32 z (fbin .mul .f32 P (X k)) = D := ⟨_, rfl⟩
          obtain ⟨D2, hD2⟩ : ∃ D, fbin .add .f32 y (fbin .mul .f32 Q (X k)) = D := ⟨_, rfl⟩
          have HD1 := Lib.hid (show snR X n c (k + 1) = D1 by rw [← hD1, hs, fbin_pick_l, ← hP, ← hW1]; rfl)
          have HD2 := Lib.hid (show snI X n c (k + 1) = D2 by rw [← hD2, ht, fbin_pick_l, ← hQ, ← hW1]; rfl)
          have HR1 := Lib.hid (show ∀ t, LikeP (fun p => if p = c then pick .f32 D1 t else Y p) (fun p => if p < c then snU X n p else if p = c then snR X n c (k + 1) else 0) M from fun t => (HLj.out.set (k := c) rfl).congr fun p hp => by
            by_cases e : p = c
            · rw [if_pos e, if_neg (by omega), if_pos e, HD1.out]
            · rw [if_neg e, if_neg e, if_neg e])
          have HR2 := Lib.hid (show ∀ t, LikeP (fun p => if p = c then pick .f32 D2 t else V p) (fun p => if p < c then snV X n p else if p = c then snI X n c (k + 1) else 0) M from fun t => (HLj'.out.set (k := c) rfl).congr fun p hp => by
            by_cases e : p = c
            · rw [if_pos e, if_neg (by omega), if_pos e, HD2.out]
            · rw [if_neg e, if_neg e, if_neg e])
          clear hownj hLj hLj' hBj hs ht hz hy hP hQ hW1 hx1
          go_wp2_with fail
          refine (HT.out _).mono ?_
          rintro e w' ⟨rfl, q1, rfl⟩
          go_wp2_with (first | ((with_reducible refine wpL_fneg ?_); refine ⟨_, _, rfl, ?_⟩))
          refine (HP.out _).mono ?_
          rintro e w' ⟨s1, t1, m1, rfl, rfl⟩
          go_wp2_with fail
          go_region_with (first
            | (go_at_call 75; refine (implScale_any _ _ _ _).mono ?_; rintro e w' ⟨s', t', m', rfl, rfl⟩)
            | (go_at_call 84; refine (addComplex_any _ _ _ _ _).mono ?_; rintro e w' ⟨s', t', m', rfl, rfl⟩))
          all_goals go_wp2
          all_goals go_roundw
          all_goals first
            | exact ⟨k + 1, _, _, by omega, by go_num, ownC_stored (own_drew HOj.out _) c _ _, HR1.out _, HR2.out _, Below.setCell (Below.drewN HBj.out _) (Nat.le_refl _) _⟩
            | (simp [intOf]; omega)
        · have hkm' : k = n := by omega
          subst hkm'
          have hL2 : LikeP Y (fun p => if p < c + 1 then snU X k p else 0) M := hLj.congr fun p hp => by
            by_cases h : p < c
            · rw [if_pos h, if_pos (by omega)]
            · rw [if_neg h]
              by_cases e : p = c
              · rw [if_pos e, if_pos (by omega), e]; rfl
              · rw [if_neg e, if_neg (by omega)]
          have hL3 : LikeP V (fun p => if p < c + 1 then snV X k p else 0) M := hLj'.congr fun p hp => by
            by_cases h : p < c
            · rw [if_pos h, if_pos (by omega)]
            · rw [if_neg h]
              by_cases e : p = c
              · rw [if_pos e, if_pos (by omega), e]; rfl
              · rw [if_neg e, if_neg (by omega)]
          clear hLj hLj'
          have hM6 := HM.out.2.2
          go_wp2
          go_roundw
          case rel => exact ⟨c + 1, Y, V, by omega, by go_num, hownj, hL2, hL3, hBj⟩
          case measure => simp [intOf]; omega
    · have hcN : c = M := by omega
      subst hcN
      have hL2 : LikeP A (snU X n) c := hL.congr fun p hp => by rw [if_pos hp]
      have hL3 : LikeP B (snV X n) c := hL'.congr fun p hp => by rw [if_pos hp]
      have hk : ok = finC A B c := by rw [hok.out, finC_like hL2.like hL3.like]
      have hM6 := HM.out.2.2
      have HG := Lib.hid (fun (w1 : World) o => implGive_any (.slice (some ⟨w.heap.size, 0, none⟩) c c) w.heap.size c A B w1 o (by omega) ok hk)
      have HOk := Lib.hid hownk
      have LA := Lib.hid hL2.like
      have LB := Lib.hid hL3.like
      have HBk := Lib.hid hBk
      clear hownk hBk hltc hL hL' hL2 hL3 hk
      go_wp2_with fail
      refine (HG.out _ (by exact HOk.out)).mono ?_
      rintro e w2 ⟨rfl, q2, rfl⟩
      cases ok
      · have e : p = 0 := by rw [hp.out]; rfl
        subst e
        go_wp2
        go_ret2
        exact RetU.no (Below.drewN HBk.out _)
      · have e : p = c := by rw [hp.out]; rfl
        subst e
        go_wp2
        go_ret2
        exact ⟨_, A, B, rfl, own_drew HOk.out _, LA.out, LB.out, Below.drewN HBk.out _⟩
theorem implSn_any (xa : Option Addr) (n cx : Nat) (X : Nat → Nat) (w : World) (hX : Rd w xa n X) (hn : n ≤ 1048576) (p : Nat) (ok : Bool) (hok : Hid (ok = (binB X n 2 && finC (snU X n) (snV X n) (n / 2 + 1)))) (hp : Hid (p = if ok = true then n / 2 + 1 else 0)) :
    Calls Try.prog 23 #[.slice xa n cx] w (RetU p (snU X n) (snV X n) ok w) := by
  cases hb : binB X n 2
  · have e : ok = false := by rw [hok.out, hb]; rfl
    subst e
    have e : p = 0 := by rw [hp.out]; rfl
    subst e
    have HB := Lib.hid (fun w hX => isScan_any xa n cx X w hX hn)
    rw [hb] at HB
    go_enter Try.func23, Try.ntmps23
    go_wp2_with fail
    refine (HB.out _ (by exact hX)).mono ?_
    rintro e w1 ⟨rfl, q, rfl⟩
    go_wp2
    go_ret2
    exact RetU.no (Below.drewN (Below.refl _ _) _)
  · exact implSn_yes xa n cx X w hX hb _ _ p ok rfl rfl (Lib.hid (by rw [hok.out, hb]; rfl)) hp
end Go.Proofs.Ytmpcalpapkedhaa
