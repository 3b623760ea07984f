
/- The lines of a scan: as the model makes them. -/
import Derived.Test.YtmpcalpapkedhaaSad
import Derived.Test.YtmpcalpapkedhaaPushS
import Derived.Test.YtmpcalpapkedhaaLaw
namespace Go.Proofs.Ytmpcalpapkedhaa
set_option linter.all false
open Go Go.ChangeShapes Go.WideShapes Go.ChangeAt Go.RowKit

def likeC_pushN {A R : Nat → Nat} {k u s : Nat} (h : Like A R k) (hu : u = pick .f32 (R k) s) : Like (fun j => if j = k then u else A j) R (k + 1) := like_push (u := u) h (s := s) (by rw [hu])
set_option maxRecDepth 100000 in
set_option maxHeartbeats 6400000 in
theorem specLs_any (xa : Option Addr) (n cx : Nat) (X : Nat → Nat) (w : World) (hX : Rd w xa n X) (h2 : 2 ≤ n) (h64 : n ≤ 64) (H : Nat) (hH : H = n / 2) :
    Calls Try.prog 81 #[.slice xa n cx] w fun e w' => ∃ v A B, e = .returned v ∧ w'.ownsRow w.heap.size 98 1 v (H + 1) (rowC A B (H + 1)) ∧ Like A (snU X n) (H + 1) ∧ Like B (snV X n) (H + 1) ∧ Below w.heap.size w w' := by
  obtain ⟨i0, hi, hz0, hz1, hz2⟩ := infoC_parts
  obtain ⟨xb, xo, hxa, hcx⟩ := id hX
  have HX := Lib.hid hcx
  have hH32 : H ≤ 32 := by omega
  have hdv : (n : Int).tdiv 2 = (H : Int) := by rw [hH]; simp <;> omega
  have HM := Lib.hid (And.intro h2 (And.intro h64 hH32))
  clear hcx hX hH h2 h64
  have hpl := fun op => fbin_pick_l op .f32
  have hpr := fun op => fbin_pick_r op .f32
  go_enter Try.func81, Try.ntmps81
  go_wp2_with fail
  obtain ⟨w1, hw1⟩ : ∃ w1, w1 = w.alloc (Obj.cells #[] 98) := ⟨_, rfl⟩
  rw [← hw1]
  have HO : w1.ownsRow w.heap.size 98 1 (.slice (some ⟨w.heap.size, 0, none⟩) 0 0) 0 (rowC (fun _ => 0) (fun _ => 0) 0) := by rw [hw1]; exact ownC_empty w _ _
  have HB1 : Below w.heap.size w w1 := by rw [hw1]; exact (Below.refl _ _).alloc (Nat.le_refl _) _
  clear hw1
  go_loopw [4, 5] (fun v i wr => ∃ (c : Nat) (A B : Nat → Nat), c ≤ H + 1 ∧ i = .int .i64 (c : Int) ∧ wr.ownsRow w.heap.size 98 1 v c (rowC A B c) ∧ Hid (Like A (snU X n) c) ∧ Hid (Like B (snV X n) c) ∧ Below w.heap.size w wr) (fun _ i _ => H + 1 - (intOf i).toNat)
  case atStart => exact ⟨0, _, _, Nat.zero_le _, rfl, HO, Lib.hid fun _ h => absurd h (Nat.not_lt_zero _), Lib.hid fun _ h => absurd h (Nat.not_lt_zero _), HB1⟩
  case round =>
    obtain ⟨c, A, B, hc, rfl, hown, HA, HB, hBk⟩ := hrel
    clear HO HB1
    by_cases hlt : c < H + 1
    · have hcN : (c : Int) ≤ (H : Int) := by omega
      obtain ⟨wu, hwu⟩ : ∃ wu, wu = wr := ⟨_, rfl⟩
      subst hwu
      have HOk := Lib.hid hown
      have HBk := Lib.hid hBk
      have hsz := hBk.size
      have HC := Lib.hid (show c ≤ 32 by have := HM.out; omega)
      clear hown hBk
      go_wp2
      go_loopw [6, 7] (fun su i wr => ∃ k s t q : Nat, k ≤ n ∧ i = .int .i64 (k : Int) ∧ su = .complex .f32 (pick .f32 (snR X n c k) s) (pick .f32 (snI X n c k) t) ∧ wr = wu.drewN q) (fun _ i _ => n - (intOf i).toNat)
      case atStart => exact ⟨0, 0, 0, 0, Nat.zero_le _, rfl, by rw [show snR X n c 0 = 0 from rfl, show snI X n c 0 = 0 from rfl, pick_num (by decide +kernel)], rfl⟩
      case round =>
        obtain ⟨k, s, t, q, hk, rfl, rfl, rfl⟩ := hrel
        by_cases hltk : k < n
        · have e := hxa (by omega)
          subst e
          have hx1 := HX.out k hltk
          have hxl := World.block_lt_of_cell? w _ hx1
          have hx2 : wu.cell? ⟨xb, xo + k, none⟩ = some (.float .f32 (X k)) := (HBk.out.cell (p := ⟨xb, xo + k, none⟩) hxl).trans hx1
          have hkm : (k : Int) < (n : Int) := by omega
          have hk64 : k ≤ 64 := by have := HM.out; omega
          have hwr := ki_wrap HC.out hk64
          obtain ⟨Y, hY⟩ : ∃ Y, snQ n c k = Y := ⟨_, rfl⟩
          have hZ1 : fbin .quo .f64 (floatOfInt .f64 ((c : Int) * (k : Int))) (floatOfInt .f64 (n : Int)) = Y := hY
          have hpk : ∀ s, pick .f64 Y s = Y := fun s => by rw [← hY]; exact snQ_pick HM.out.1 HM.out.2.1 HC.out hk64 s
          obtain ⟨P, hP⟩ : ∃ P, (phaT (Op.negFloat .f64 Y)).1 = P := ⟨_, rfl⟩
          obtain ⟨Q, hQ⟩ : ∃ Q, (phaT (Op.negFloat .f64 Y)).2 = Q := ⟨_, rfl⟩
          have HP := Lib.hid (show ∀ w, Calls Try.prog 146 #[.float .f64 (Op.negFloat .f64 Y)] w (RetC P Q w) from fun w => by rw [← hP, ← hQ]; exact specPha_any _ w)
          have HD1 := Lib.hid (show snR X n c (k + 1) = fbin .add .f32 (snR X n c k) (fbin .mul .f32 P (X k)) by rw [← hP, ← hY]; rfl)
          have HD2 := Lib.hid (show snI X n c (k + 1) = fbin .add .f32 (snI X n c k) (fbin .mul .f32 Q (X k)) by rw [← hQ, ← hY]; rfl)
          obtain ⟨S, hS⟩ : ∃ S, snR X n c k = S := ⟨_, rfl⟩
          obtain ⟨T, hT⟩ : ∃ T, snI X n c k = T := ⟨_, rfl⟩
          rw [hS] at HD1 ⊢
          rw [hT] at HD2 ⊢
          have q1 := cadd_run
          have q2 : ∀ b, Op.unary .neg (.float .f64 b) = pure (.float .f64 (Op.negFloat .f64 b)) := fun _ => rfl
          clear hx1 hY hS hT hP hQ
          go_wp2_with (first | ((with_reducible refine wpL_fbin ?_); refine ⟨_, _, _, rfl, rfl, rfl, fun s n => ?_⟩))
          go_region_with (first
            | (go_at_call 146; refine (HP.out _).mono ?_; rintro e w' ⟨s', t', m', rfl, rfl⟩)
            | (go_at_call 148; refine (specScale_any _ _ _ _).mono ?_; rintro e w' ⟨s', t', m', rfl, rfl⟩))
          all_goals go_wp2
          all_goals go_roundw
          all_goals first
            | exact ⟨k + 1, _, _, _, by omega, by go_num, by rw [HD1.out, HD2.out], by first | rfl | rw [World.drewN_drewN]⟩
            | (simp [intOf]; omega)
        · have hkm : k = n := by omega
          subst hkm
          obtain ⟨D1, hD1⟩ : ∃ D, D = pick .f32 (snR X k c k) s := ⟨_, rfl⟩
          obtain ⟨D2, hD2⟩ : ∃ D, D = pick .f32 (snI X k c k) t := ⟨_, rfl⟩
          rw [← hD1, ← hD2]
          have HA' := Lib.hid (likeC_pushN (u := D1) HA.out (s := s) (by rw [hD1]; rfl))
          have HB' := Lib.hid (likeC_pushN (u := D2) HB.out (s := t) (by rw [hD2]; rfl))
          clear hD1 hD2
          go_wp2_with (at_builtin; refine wpL_pushC hi hz0 hz1 hz2 rfl rfl rfl rfl (by exact own_drew HOk.out _) (by have := HC.out; omega) (by exact hsz) ?_; intro v' w3 hown3 hB3)
          go_roundw
          case rel => exact ⟨c + 1, _, _, by omega, by go_num, hown3, HA', HB', (Below.drewN HBk.out _).trans hB3⟩
          case measure => simp [intOf]; omega
    · have hcN : c = H + 1 := by omega
      subst hcN
      obtain ⟨va', vc', rfl, _, _, _⟩ := rdC_of_own hown
      have HOk := Lib.hid hown
      clear hown hlt
      go_wp2
      go_ret
      exact ⟨_, A, B, rfl, HOk.out, HA.out, HB.out, hBk⟩
set_option maxRecDepth 100000 in
set_option maxHeartbeats 3200000 in
theorem specSn_any (xa : Option Addr) (n cx : Nat) (X : Nat → Nat) (w : World) (hX : Rd w xa n X) (hn : n ≤ 1048576) (p : Nat) (ok : Bool) (hok : Hid (ok = (binB X n 2 && finC (snU X n) (snV X n) (n / 2 + 1)))) (hp : Hid (p = if ok = true then n / 2 + 1 else 0)) :
    Calls Try.prog 21 #[.slice xa n cx] w (RetU p (snU X n) (snV X n) ok w) := by
  cases hb : binB X n 2
  · have e : ok = false := by rw [hok.out, hb]; rfl
    subst e
    have e : p = 0 := by rw [hp.out]; rfl
    subst e
    have HB := Lib.hid (fun w hX => specBins_any xa n cx X 2 w hX hn)
    rw [hb] at HB
    go_enter Try.func21, Try.ntmps21
    go_wp2_with fail
    refine (HB.out _ (by exact hX)).mono ?_
    rintro e w1 ⟨rfl, q, rfl⟩
    go_wp2
    go_ret2
    exact RetU.no (Below.drewN (Below.refl _ _) _)
  · obtain ⟨h2, h64, _⟩ := binB_at hb
    have HB := Lib.hid (fun w hX => specBins_any xa n cx X 2 w hX hn)
    rw [hb] at HB
    have HK := Lib.hid (show ok = finC (snU X n) (snV X n) (n / 2 + 1) by rw [hok.out, hb]; rfl)
    obtain ⟨H, hH⟩ : ∃ H, H = n / 2 := ⟨_, rfl⟩
    rw [← hH] at HK hp
    have HL := Lib.hid (fun w hX => specLs_any xa n cx X w hX (by omega) (by omega) H hH)
    have hH32 : H ≤ 32 := by omega
    clear hb hok hH
    go_enter Try.func21, Try.ntmps21
    go_wp2_with fail
    refine (HB.out _ (by exact hX)).mono ?_
    rintro e w1 ⟨rfl, q, rfl⟩
    go_wp2_with fail
    refine (HL.out _ (by exact hX)).mono ?_
    rintro e w1 ⟨v, A, B, rfl, o, la, lb, b⟩
    have hk : ok = finC A B (H + 1) := by rw [HK.out, finC_like la lb]
    have b' : Below w.heap.size w w1 := (Below.drewN (Below.refl _ w) q).trans b
    have o' : w1.ownsRow w.heap.size 98 1 v (H + 1) (rowC A B (H + 1)) := o
    clear o b HK
    have O := Lib.hid o'
    have LA := Lib.hid la
    have LB := Lib.hid lb
    have HG := Lib.hid (fun (w1 : World) o => specGive_any v w.heap.size (H + 1) A B w1 o (by omega) ok hk)
    obtain ⟨va, vc, rfl, _, _, _⟩ := rdC_of_own o'
    clear o' la lb hk
    go_wp2_with fail
    refine (HG.out _ (by exact O.out)).mono ?_
    rintro e w2 ⟨rfl, q2, rfl⟩
    cases ok
    · have e : p = 0 := by rw [hp.out]; rfl
      subst e
      go_wp2
      go_ret2
      exact RetU.no (Below.drewN b' _)
    · have e : p = H + 1 := by rw [hp.out]; rfl
      subst e
      go_wp2
      go_ret2
      exact ⟨_, A, B, rfl, own_drew O.out _, LA.out, LB.out, Below.drewN b' _⟩
end Go.Proofs.Ytmpcalpapkedhaa
