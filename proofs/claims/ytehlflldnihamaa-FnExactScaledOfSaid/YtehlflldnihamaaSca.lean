/- Of any list the program tells the numbers divided by the greatest absolute value just where the model does, and the same; the list is not changed: for all arguments. -/
import Derived.Test.YtehlflldnihamaaSame
import Derived.Test.YtehlflldnihamaaGiv
import Derived.Test.YtehlflldnihamaaDiv
import Derived.Test.YtehlflldnihamaaLt5
import Derived.Test.YtehlflldnihamaaMxm
import Derived.Test.YtehlflldnihamaaLbd
import Derived.Test.YtehlflldnihamaaNf
import Derived.Test.YtehlflldnihamaaLiC
import Derived.Test.YtehlflldnihamaaLaw
namespace Go.Proofs.Ytehlflldnihamaa
open Go Go.ChangeShapes Go.WideShapes Go.ChangeAt Go.RowKit

def wideW (x : Nat) : Nat := if (FloatKind.f32.format.order x 0 == some .lt) = true then Op.negFloat .f32 x else x
/-- The greatest absolute value. -/
def mR (X : Nat → Nat) : Nat → Nat
  | 0 => 0
  | k + 1 => max (mR X k) (X k % 2147483648)
theorem mod_word (s : Bool) (r : Nat) (h : r < 2147483648) : Ieee.single.word s r % 2147483648 = r := by
  have hsw : Ieee.single.signWeight = 2147483648 := rfl
  unfold Ieee.Format.word
  rw [hsw]
  cases s <;> simp <;> omega
theorem wide_word (s : Bool) (r : Nat) (h : r < 2139095040) : ∃ t, wideW (Ieee.single.word s r) = Ieee.single.word t r ∧ (t = false ∨ r = 0) := by
  have ho := ord_words s false r 0 h (by omega)
  rw [wordF] at ho
  unfold wideW
  rw [ho, neg_wordR s r (by omega)]
  rcases Int.lt_trichotomy (sgR s r) (sgR false 0) with h1 | h1 | h1
  · rw [Int.compare_eq_lt.2 h1, if_pos (by decide)]
    cases s
    · exfalso; unfold sgR at h1; simp at h1; omega
    · exact ⟨false, rfl, .inl rfl⟩
  · rw [Int.compare_eq_eq.2 h1, if_neg (by decide)]
    refine ⟨s, rfl, ?_⟩
    cases s
    · exact .inl rfl
    · right; unfold sgR at h1; simp at h1; omega
  · rw [Int.compare_eq_gt.2 h1, if_neg (by decide)]
    refine ⟨s, rfl, ?_⟩
    cases s
    · exact .inl rfl
    · exfalso; unfold sgR at h1; simp at h1; omega
theorem run_maxM {M x : Nat} (hM : M < 2139095040) (hx : x < 4294967296) (fx : isFin .f32 x = true) (P : Program) (ts : Array TypeId) (t : TypeId) (w : World) :
    (Builtin.max_ ts t #[.float .f32 M, .float .f32 (wideW x)]).run P w = .ok (.float .f32 (max M (x % 2147483648))) w := by
  obtain ⟨s, r, hr, rfl⟩ := fin_word hx fx
  obtain ⟨u, hu, hz⟩ := wide_word s r hr
  rw [hu, mod_word s r (by omega)]
  have h1 := run_max32 P ts t false u M r hM hr w
  rw [wordF] at h1
  rw [h1]
  congr 2
  rcases hz with rfl | rfl
  · cases hl : lessW false M false r
    · have := lessW_ge hl
      unfold sgR at this
      simp only [Bool.false_eq_true, if_false] at this
      rw [if_neg (by simp)]
      omega
    · have := lessW_le hl
      unfold sgR at this
      simp only [Bool.false_eq_true, if_false] at this
      rw [if_pos rfl, wordF]
      omega
  · cases hl : lessW false M u 0
    · rw [if_neg (by simp)]; omega
    · exfalso
      have h2 := lessW_le hl
      have e0 : sgR u 0 = 0 := by unfold sgR; cases u <;> rfl
      rw [e0] at h2
      unfold sgR at h2
      simp only [Bool.false_eq_true, if_false] at h2
      obtain rfl : M = 0 := by omega
      rw [lessW_eq (by rw [e0]; rfl)] at hl
      cases hl
theorem mR_lt {X : Nat → Nat} : ∀ n, (∀ j, j < n → X j < 4294967296 ∧ isFin .f32 (X j) = true) → mR X n < 2139095040 := by
  intro n
  induction n with
  | zero => intro _; show 0 < 2139095040; omega
  | succ n ih =>
    intro h
    have h1 := ih fun j hj => h j (by omega)
    obtain ⟨s, r, hr, e⟩ := fin_word (h n (by omega)).1 (h n (by omega)).2
    show max (mR X n) (X n % 2147483648) < 2139095040
    rw [e, mod_word s r (by omega)]
    omega
theorem mR_ge {X : Nat → Nat} : ∀ n j, j < n → X j % 2147483648 ≤ mR X n := by
  intro n
  induction n with
  | zero => intro j h; omega
  | succ n ih =>
    intro j hj
    show _ ≤ max (mR X n) (X n % 2147483648)
    by_cases e : j = n
    · subst e; omega
    · have := ih j (by omega); omega
theorem mR_at {X : Nat → Nat} : ∀ n, mR X n = 0 ∨ ∃ j, j < n ∧ mR X n = X j % 2147483648 := by
  intro n
  induction n with
  | zero => exact .inl rfl
  | succ n ih =>
    by_cases h : mR X n ≤ X n % 2147483648
    · exact .inr ⟨n, by omega, by show max (mR X n) (X n % 2147483648) = _; omega⟩
    · have e : mR X (n + 1) = mR X n := by show max (mR X n) (X n % 2147483648) = _; omega
      rw [e]
      rcases ih with h1 | ⟨j, hj, h1⟩
      · exact .inl h1
      · exact .inr ⟨j, by omega, h1⟩
theorem key_abs {x : Nat} (h : x < 4294967296) : keyW x = ((x % 2147483648 : Nat) : Int) ∨ keyW x = -((x % 2147483648 : Nat) : Int) := by
  unfold keyW
  by_cases h1 : x < 2147483648
  · left; rw [if_pos h1, Nat.mod_eq_of_lt h1]
  · right; rw [if_neg h1, show x % 2147483648 = x - 2147483648 by omega]
/-- The greater one of the greatest number and of the least one with the other sign. -/
theorem run_maxE {X : Nat → Nat} {n a b : Nat} (ha : a < n) (hb : b < n) (hw : ∀ j, j < n → X j < 4294967296 ∧ isFin .f32 (X j) = true) (hA : ∀ i, i < n → keyW (X i) ≤ keyW (X a)) (hB : ∀ i, i < n → keyW (X b) ≤ keyW (X i)) :
    ∃ D, (D = mR X n ∨ mR X n = 0 ∧ ∃ s, D = Ieee.single.word s 0) ∧ ∀ (P : Program) (ts : Array TypeId) (t : TypeId) (w : World), (Builtin.max_ ts t #[.float .f32 (X a), .float .f32 (Op.negFloat .f32 (X b))]).run P w = .ok (.float .f32 D) w := by
  obtain ⟨s, p, hp, e1⟩ := fin_word (hw a ha).1 (hw a ha).2
  obtain ⟨u, q, hq, e2⟩ := fin_word (hw b hb).1 (hw b hb).2
  have k1 : keyW (X a) = sgR s p := by rw [e1]; exact key_word s p (by omega)
  have k2 : keyW (X b) = sgR u q := by rw [e2]; exact key_word u q (by omega)
  have g1 := mR_ge (X := X) n a ha
  have g2 := mR_ge (X := X) n b hb
  have p1 : X a % 2147483648 = p := by rw [e1]; exact mod_word s p (by omega)
  have p2 : X b % 2147483648 = q := by rw [e2]; exact mod_word u q (by omega)
  have hneg : sgR (!u) q = -sgR u q := by unfold sgR; cases u <;> simp
  have hmax : (mR X n : Int) ≤ sgR s p ∨ (mR X n : Int) ≤ sgR (!u) q := by
    rcases mR_at (X := X) n with h | ⟨j, hj, h⟩
    · rw [h, hneg]
      have := hA b hb
      rw [k1, k2] at this
      omega
    · have h1 := hA j hj
      have h2 := hB j hj
      rcases key_abs (hw j hj).1 with h3 | h3
      · left; rw [h, ← k1]; omega
      · right; rw [h, hneg, ← k2]; omega
  refine ⟨if lessW s p (!u) q = true then Ieee.single.word (!u) q else Ieee.single.word s p, ?_, fun P ts t w => by
    rw [e1, e2, neg_wordR u q (by omega)]
    exact run_max32 P ts t s (!u) p q hp hq w⟩
  cases hl : lessW s p (!u) q
  · have h3 := lessW_ge hl
    rw [if_neg (by simp)]
    have h4 : (mR X n : Int) ≤ sgR s p := by rcases hmax with h | h <;> omega
    unfold sgR at h4
    cases s
    · left; simp only [Bool.false_eq_true, if_false] at h4; rw [wordF]; omega
    · right; simp only [if_true] at h4; exact ⟨by omega, true, by rw [show p = 0 by omega]⟩
  · have h3 := lessW_le hl
    rw [if_pos rfl]
    have h4 : (mR X n : Int) ≤ sgR (!u) q := by rcases hmax with h | h <;> omega
    unfold sgR at h4
    cases u
    · right; simp only [Bool.not_false, if_true] at h4; exact ⟨by omega, true, by rw [show q = 0 by omega]; rfl⟩
    · left; simp only [Bool.not_true, Bool.false_eq_true, if_false] at h4; rw [Bool.not_true, wordF]; omega
theorem quo_zeroS {x : Nat} (s : Bool) (hx : isFin .f32 x = true) : isFin .f32 (fbin .quo .f32 x (Ieee.single.word s 0)) = false := by
  obtain ⟨t, m, e, h1⟩ := fin_decL hx
  have h2 : FloatKind.decode .f32 (Ieee.single.word s 0) = .number s 0 (-149) := by cases s <;> decide +kernel
  show isFin .f32 ((((FloatKind.decode .f32 x).quotient 25 (FloatKind.decode .f32 (Ieee.single.word s 0))).map FloatKind.f32.format.write).getD (qnan .f32)) = false
  rw [h1, h2]
  refine nf_of fun d hd => ?_
  simp only [Ieee.Datum.quotient, if_true] at hd
  split at hd
  · cases hd
  · cases hd; exact ⟨_, rfl⟩
set_option maxRecDepth 100000 in
set_option maxHeartbeats 800000 in
theorem l05Wide_any (x : Nat) (w : World) : Calls Try.prog 55 #[.float .f32 x] w fun e w' => e = .returned (.float .f32 (wideW x)) ∧ w' = w := by
  obtain ⟨b, hb⟩ : ∃ b, b = (FloatKind.f32.format.order x 0 == some .lt) := ⟨_, rfl⟩
  have hb' := hb.symm
  have HW := Lib.hid (show wideW x = if b = true then Op.negFloat .f32 x else x by rw [hb]; rfl)
  clear hb
  cases b
  · go_enter Try.func55, Try.ntmps55
    go_wp2_with ((with_reducible refine wpL_fneg ?_); refine ⟨_, _, rfl, ?_⟩)
    go_ret
    exact ⟨by rw [HW.out]; rfl, rfl⟩
  · go_enter Try.func55, Try.ntmps55
    go_wp2_with ((with_reducible refine wpL_fneg ?_); refine ⟨_, _, rfl, ?_⟩)
    go_ret
    exact ⟨by rw [HW.out]; rfl, rfl⟩
def scaOk (X : Nat → Nat) (n : Nat) : Bool := okLst X n && (decide (mR X n ≠ 0) && finL (divR X (mR X n)) n)
set_option maxRecDepth 100000 in
set_option maxHeartbeats 3200000 in
theorem specSca_any (xa : Option Addr) (n cx : Nat) (X : Nat → Nat) (w : World) (hX : Rd w xa n X) (hn : n ≤ 1048576) (hw : ∀ j, j < n → X j < 4294967296) (ok : Bool) (ho : Hid (ok = scaOk X n)) (m : Nat) (hm : Hid (m = if ok = true then n else 0)) :
    Calls Try.prog 21 #[.slice xa n cx] w (LstRet (divR X (mR X n)) m ok w) := by
  obtain ⟨i0, hi, hz0, hz1, hz2⟩ := info_parts infoF
  have HNO := Lib.hid (fun (h : ok = false) w' (hb : Below w.heap.size w w') => show LstRet (divR X (mR X n)) m ok w (.returned (.tuple #[.slice none 0 0, .bool false])) w' by
    rw [hm.out, h, if_neg (by simp)]; exact lstNo hb)
  cases hk : okLst X n
  · have HT := Lib.hid (fun w hX => specLst_any xa n cx X w hX hn false (Lib.hid hk.symm))
    have HN := Lib.hid (HNO.out (by rw [ho.out, scaOk, hk]; rfl))
    clear hk
    go_enter Try.func21, Try.ntmps21
    go_wp2_with (go_at_call 48; refine (HT.out _ (by exact hX)).mono ?_; rintro e w' ⟨rfl, q, rfl⟩)
    go_ret2
    refine HN.out _ ?_
    (repeat (first | with_reducible exact Below.refl _ _ | with_reducible refine Below.drewN ?_ _ | with_reducible refine Below.setCell ?_ (by simp; try omega) _ | with_reducible refine Below.alloc ?_ (by simp; try omega) _))
  · have HT := Lib.hid (fun w hX => specLst_any xa n cx X w hX hn true (Lib.hid hk.symm))
    have h128 := okLst_at hk
    have HFW := Lib.hid (show ∀ j, j < n → X j < 4294967296 ∧ isFin .f32 (X j) = true from fun j hj => ⟨hw j hj, finL_at h128.1 j hj⟩)
    have HO := Lib.hid (show ok = (decide (mR X n ≠ 0) && finL (divR X (mR X n)) n) by rw [ho.out, scaOk, hk, Bool.true_and])
    have hX' := hX
    obtain ⟨xb, xo, hxa, hcx⟩ := hX'
    have e := hxa (by omega)
    subst e
    have HX := Lib.hid hcx
    clear hk hcx hxa
    go_enter Try.func21, Try.ntmps21
    go_wp2_with (go_at_call 48; refine (HT.out _ (by exact hX)).mono ?_; rintro e w' ⟨rfl, q, rfl⟩)
    go_loopw [4, 13] (fun v i wr => ∃ k : Nat, k ≤ n ∧ i = .int .i64 (k : Int) ∧ v = .float .f32 (mR X k) ∧ wr = w.drewN q) (fun _ i _ => n - (intOf i).toNat)
    case atStart => exact ⟨0, Nat.zero_le _, rfl, rfl, rfl⟩
    case round =>
      obtain ⟨k, hk, rfl, rfl, rfl⟩ := hrel
      by_cases hlt : k < n
      · have c1 := HX.out k hlt
        obtain ⟨M, hM⟩ : ∃ M, M = mR X k := ⟨_, rfl⟩
        have hr := fun ts t w => run_maxM (M := M) (by rw [hM]; exact mR_lt k fun j hj => HFW.out j (by omega)) (HFW.out k hlt).1 (HFW.out k hlt).2 Try.prog ts t w
        obtain ⟨N, hN⟩ : ∃ N, N = max M (X k % 2147483648) := ⟨_, rfl⟩
        rw [← hN] at hr
        have HN := Lib.hid (show N = mR X (k + 1) by rw [hN, hM]; rfl)
        rw [← hM]
        clear hM hN
        go_wp2_with (go_at_call 55; refine (l05Wide_any _ _).mono ?_; rintro e w' ⟨rfl, rfl⟩)
        go_roundw
        case rel => exact ⟨k + 1, by omega, by go_num, by first | (rw [HN.out]; done) | trivial, by first | rfl | trivial⟩
        case measure => simp [intOf]; omega
      · have hkn : k = n := by omega
        subst hkn
        obtain ⟨D, hD⟩ : ∃ D, D = mR X k := ⟨_, rfl⟩
        rw [← hD]
        have hDl : D < 2139095040 := by rw [hD]; exact mR_lt k HFW.out
        have hoz := ord_words false false D 0 hDl (by omega)
        rw [wordF, wordF] at hoz
        by_cases hz : D = 0
        · have HN := Lib.hid (HNO.out (by rw [HO.out, ← hD, hz]; rfl))
          have hz' : (FloatKind.f32.format.order D 0 == some .eq) = true := by rw [hoz, hz]; rfl
          clear hz hD hoz hDl
          go_wp2
          go_ret2
          refine HN.out _ ?_
          (repeat (first | with_reducible exact Below.refl _ _ | with_reducible refine Below.drewN ?_ _ | with_reducible refine Below.setCell ?_ (by simp; try omega) _ | with_reducible refine Below.alloc ?_ (by simp; try omega) _))
        · have hz' : (FloatKind.f32.format.order D 0 == some .eq) = false := by
            rw [hoz, show compare (sgR false D) (sgR false 0) = .gt by rw [Int.compare_eq_gt]; unfold sgR; simp; omega]
            rfl
          obtain ⟨R, hR⟩ : ∃ R, R = divR X D := ⟨_, rfl⟩
          have HR := Lib.hid hR
          have HRR := Lib.hid (show R = divR X (mR X k) by rw [hR, hD])
          have HK := Lib.hid (show ok = finL R k by rw [HO.out, ← hD, ← hR, decide_eq_true hz, Bool.true_and])
          clear hz hD hR hoz hDl
          go_wp2
          go_loopw [6, 29] (fun v i wr => ∃ (c : Nat) (Z : Nat → Nat), c ≤ k ∧ i = .int .i64 (c : Int) ∧ wr.ownsRow w.heap.size 31 1 v c (rowOf Z c) ∧ Like Z R c ∧ Below w.heap.size w wr) (fun _ i _ => k - (intOf i).toNat)
          case atStart => exact ⟨0, fun _ => 0, Nat.zero_le _, rfl, own_empty (w.drewN _) _, fun _ h => absurd h (Nat.not_lt_zero _), Below.alloc (Below.drewN (Below.refl _ _) _) (Nat.le_refl _) _⟩
          case round =>
            obtain ⟨c, Z, hc, rfl, hownk, hL, hBk⟩ := hrel
            have hsz := hBk.size
            by_cases hltc : c < k
            · have c0 := HX.out c hltc
              have c1 := (hBk.cell (p := ⟨xb, xo + c, none⟩) (World.block_lt_of_cell? w _ c0)).trans c0
              clear c0
              have hd : fbin .quo .f32 (X c) D = R c := by rw [HR.out]; rfl
              obtain ⟨U, hU⟩ : ∃ U, U = R c := ⟨_, rfl⟩
              rw [← hU] at hd
              have HU := Lib.hid hU
              clear hU
              go_wp2_with (first | ((with_reducible refine wpL_fbin ?_); refine ⟨_, _, _, rfl, rfl, rfl, fun s n => ?_⟩) | (at_builtin; refine wpL_push hi hz0 hz1 hz2 rfl rfl rfl rfl (by exact own_drew hownk _) (by omega) (by exact hsz) ?_; intro v' w1 hown' hB'))
              go_roundw
              case rel => exact ⟨c + 1, _, by omega, by go_num, hown', like_push hL (by rw [← HU.out]), Below.trans (Below.drewN hBk _) hB'⟩
              case measure => simp [intOf]; omega
            · have hck : c = k := by omega
              subst hck
              have HF := Lib.hid (show LstRet R (if finL R c = true then c else 0) (finL R c) w = LstRet (divR X (mR X c)) m ok w by rw [hm.out, HK.out, HRR.out])
              go_wp2_with fail
              refine (l07Give_any _ _ c Z _ (by exact hownk) (by omega)).mono ?_
              rintro e w' ⟨rfl, q2, rfl⟩
              have HV := Lib.hid (lstGive hL hownk (by omega) hBk)
              cases hfz : finL Z c
              · rw [hfz] at HV
                go_wp2
                go_ret2
                rw [← HF.out]
                obtain ⟨a, b, h3, h4, h5, h6, h7⟩ := HV.out
                exact ⟨a, b, h3, h4, h5, h6, Below.drewN h7 _⟩
              · rw [hfz] at HV
                go_wp2
                go_ret2
                rw [← HF.out]
                obtain ⟨a, b, h3, h4, h5, h6, h7⟩ := HV.out
                exact ⟨a, b, h3, h4, h5, h6, Below.drewN h7 _⟩
set_option maxRecDepth 100000 in
set_option maxHeartbeats 3200000 in
theorem implSca_any (xa : Option Addr) (n cx : Nat) (X : Nat → Nat) (w : World) (hX : Rd w xa n X) (hn : n ≤ 1048576) (hw : ∀ j, j < n → X j < 4294967296) (ok : Bool) (ho : Hid (ok = scaOk X n)) (m : Nat) (hm : Hid (m = if ok = true then n else 0)) :
    Calls Try.prog 22 #[.slice xa n cx] w (LstRet (divR X (mR X n)) m ok w) := by
  have HNO := Lib.hid (fun (h : ok = false) w' (hb : Below w.heap.size w w') => show LstRet (divR X (mR X n)) m ok w (.returned (.tuple #[.slice none 0 0, .bool false])) w' by
    rw [hm.out, h, if_neg (by simp)]; exact lstNo hb)
  cases hk : okLst X n
  · have HT := Lib.hid (fun w hX => implLst_any xa n cx X w hX hn false (Lib.hid hk.symm))
    have HN := Lib.hid (HNO.out (by rw [ho.out, scaOk, hk]; rfl))
    clear hk
    go_enter Try.func22, Try.ntmps22
    go_wp2_with (go_at_call 50; refine (HT.out _ (by exact hX)).mono ?_; rintro e w' ⟨rfl, q, rfl⟩)
    go_ret2
    refine HN.out _ ?_
    (repeat (first | with_reducible exact Below.refl _ _ | with_reducible refine Below.drewN ?_ _ | with_reducible refine Below.setCell ?_ (by simp; try omega) _ | with_reducible refine Below.alloc ?_ (by simp; try omega) _))
  · have HT := Lib.hid (fun w hX => implLst_any xa n cx X w hX hn true (Lib.hid hk.symm))
    have h128 := okLst_at hk
    have HFW := Lib.hid (show ∀ j, j < n → X j < 4294967296 ∧ isFin .f32 (X j) = true from fun j hj => ⟨hw j hj, finL_at h128.1 j hj⟩)
    have HO := Lib.hid (show ok = (decide (mR X n ≠ 0) && finL (divR X (mR X n)) n) by rw [ho.out, scaOk, hk, Bool.true_and])
    have HMX := Lib.hid (fun w hX => slicesMax_any xa n cx X w hX h128.2.1 hn (fun j hj => (HFW.out j hj).1) (fun j hj => (HFW.out j hj).2))
    have HMN := Lib.hid (fun w hX => slicesMin_any xa n cx X w hX h128.2.1 hn (fun j hj => (HFW.out j hj).1) (fun j hj => (HFW.out j hj).2))
    clear hk
    go_enter Try.func22, Try.ntmps22
    go_wp2_with (go_at_call 50; refine (HT.out _ (by exact hX)).mono ?_; rintro e w' ⟨rfl, q, rfl⟩)
    refine (HMX.out _ (by exact hX)).mono ?_
    rintro e w' ⟨a, ha, rfl, hA, rfl⟩
    go_wp2_with fail
    refine (HMN.out _ (by exact hX)).mono ?_
    rintro e w' ⟨b, hb, rfl, hB, rfl⟩
    obtain ⟨D, hD, hr⟩ := run_maxE ha hb HFW.out hA hB
    have hr' := fun ts t w => hr Try.prog ts t w
    clear hA hB hr
    have HPK := Lib.hid (show (Value.float .f32 D) = .float .f32 (pick .f32 D 0) by rw [(pick_num (num_fin (by
      rcases hD with e | ⟨_, s, e⟩
      · have := word_fin false (mR X n) (mR_lt n HFW.out)
        rw [wordF] at this
        rw [e]; exact this
      · rw [e]; exact word_fin s 0 (by omega))) 0)])
    have HK := Lib.hid (show ok = finL (divR X D) n ∧ LstRet (divR X D) (if finL (divR X D) n = true then n else 0) (finL (divR X D) n) w = LstRet (divR X (mR X n)) m ok w by
      rcases hD with e | ⟨e0, s, e⟩
      · by_cases hz : mR X n = 0
        · have hf : finL (divR X D) n = false := finL_no (k := 0) (by omega) (by
            rw [e, hz, show (0 : Nat) = Ieee.single.word false 0 from rfl]
            exact quo_zeroS false (HFW.out 0 (by omega)).2)
          have ho2 : ok = false := by rw [HO.out, hz]; rfl
          exact ⟨by rw [hf, ho2], by rw [hf, hm.out, ho2, e]⟩
        · have ho2 : ok = finL (divR X D) n := by rw [HO.out, decide_eq_true hz, Bool.true_and, e]
          exact ⟨ho2, by rw [hm.out, ho2, e]⟩
      · have hf : finL (divR X D) n = false := finL_no (k := 0) (by omega) (by rw [e]; exact quo_zeroS s (HFW.out 0 (by omega)).2)
        have ho2 : ok = false := by rw [HO.out, e0]; rfl
        refine ⟨by rw [hf, ho2], ?_⟩
        rw [hf, hm.out, ho2, if_neg (by simp)]
        funext e' w'
        apply propext
        constructor
        · rintro ⟨v, Y, h1, h2, _, h3, h4⟩; exact ⟨v, Y, h1, h2, fun _ h => absurd h (Nat.not_lt_zero _), h3, h4⟩
        · rintro ⟨v, Y, h1, h2, _, h3, h4⟩; exact ⟨v, Y, h1, h2, fun _ h => absurd h (Nat.not_lt_zero _), h3, h4⟩)
    clear hD
    go_wp2_with ((with_reducible refine wpL_fneg ?_); refine ⟨_, _, rfl, ?_⟩)
    rw [HPK.out]
    refine (div_any _ _ _ X D 0 _ (by exact hX) hn).mono ?_
    rintro e w3 ⟨v, Z, rfl, hown, hL, hB⟩
    have hB' : Below w.heap.size w w3 := Below.trans (Below.drewN (Below.refl _ w) q) hB
    go_wp2_with fail
    refine (onlyFinite_any _ _ n Z _ (by exact hown) hn).mono ?_
    rintro e w4 ⟨rfl, q3, rfl⟩
    have HV := Lib.hid (lstGive (w := w) hL.like hown hn hB')
    clear hL hown
    cases hfz : finL Z n
    · rw [hfz] at HV
      go_wp2
      go_ret2
      rw [← HK.out.2]
      obtain ⟨a, b, h3, h4, h5, h6, h7⟩ := HV.out
      exact ⟨a, b, h3, h4, h5, h6, Below.drewN h7 _⟩
    · rw [hfz] at HV
      go_wp2
      go_ret2
      rw [← HK.out.2]
      obtain ⟨a, b, h3, h4, h5, h6, h7⟩ := HV.out
      exact ⟨a, b, h3, h4, h5, h6, Below.drewN h7 _⟩
/-- What is told of ScaledOf. -/
def RetScaledOf (R0 : Nat → Nat) (m0 : Nat) (r1 : Bool) (w : World) (e : Ending) (w' : World) : Prop := ∃ (v0 : Value) (Y0 : Nat → Nat), e = .returned (.tuple #[v0, .bool r1]) ∧ w'.ownsRow w.heap.size 31 1 v0 m0 (rowOf Y0 m0) ∧ Like Y0 R0 m0 ∧ m0 ≤ 1048576 ∧ Below w.heap.size w w'
theorem bothScaledOf (N : Nat) (X : Nat → Nat) (hN : N ≤ 1048576) (hw : ∀ j, j < N → (Lit.float .f32 (X j)).wf = true) :
    ∃ (R : Nat → Nat) (m : Nat) (ok : Bool), (∀ (xa : Option Addr) (c : Nat) (w : World), Rd w xa N X → Calls Try.prog 21 #[.slice xa N c] w (RetScaledOf R m ok w)) ∧
      ∀ (xa : Option Addr) (c : Nat) (w : World), Rd w xa N X → Calls Try.prog 22 #[.slice xa N c] w (RetScaledOf R m ok w) :=
  ⟨_, _, _, fun xa c w hX => specSca_any xa N c X w hX hN (fun j hj => f32_lt (hw j hj)) _ (Lib.hid rfl) _ (Lib.hid rfl), fun xa c w hX => implSca_any xa N c X w hX hN (fun j hj => f32_lt (hw j hj)) _ (Lib.hid rfl) _ (Lib.hid rfl)⟩
set_option maxRecDepth 100000 in
set_option maxHeartbeats 6400000 in
theorem lawScaledOf_in (W : World) (x0 : Option Addr) (n0 c0 : Nat) (X0 : Nat → Nat) (hX0 : Rd W x0 n0 X0) (_hw0 : ∀ j, j < n0 → (Lit.float .f32 (X0 j)).wf = true) (h0 : n0 ≤ 1048576) (R0 : Nat → Nat) (m0 : Nat) (r1 : Bool) (HS : Hid (∀ (x0 : Option Addr) (c0 : Nat) (w : World), Rd w x0 n0 X0 → Calls Try.prog 21 #[.slice x0 n0 c0] w (RetScaledOf R0 m0 r1 w))) (HI : Hid (∀ (x0 : Option Addr) (c0 : Nat) (w : World), Rd w x0 n0 X0 → Calls Try.prog 22 #[.slice x0 n0 c0] w (RetScaledOf R0 m0 r1 w))) :
    Calls Try.prog 4 #[.slice x0 n0 c0] W fun e w' => e = .returned (.bool true) ∧ Below W.heap.size W w' := by
  have hcv := fun (R : Nat) (s t : Nat) => show canon .f64 (pick .f64 (fconv .f32 (pick .f32 R s) .f64) t) = canon .f64 (fconv .f32 R .f64) by rw [canon_pick, fconv_pick]
  have hcw := fun (R : Nat) (s t : Nat) => show canon .f64 (pick .f64 R s) = canon .f64 (pick .f64 R t) by rw [canon_pick, canon_pick]
  have HCV := Lib.hid hcv
  have HCW := Lib.hid hcw
  clear hcv hcw
  have hnb1 : (r1 != r1) = false := by simp
  have HB := Blw.refl W
  go_enter Try.func4, Try.ntmps4
  go_wp2_with fail
  refine (toF_any _ _ _ X0 _ (by exact hX0.below (Blw.out (by exact HB))) h0).mono ?_
  rintro e0 w0 ⟨rfl, O0, B0⟩
  replace HB := Blw.next (by exact HB) B0
  have C0 := O0
  clear O0 B0
  go_wp2_with fail
  refine (HS.out _ _ _ (rd_own (by exact C0))).mono ?_
  rintro e0 w1 ⟨vw0, Yw0, rfl, Ow0, Lw0, mw0, B0⟩
  clear C0
  replace HB := Blw.next (by exact HB) B0
  clear B0
  have Z0 := hX0.below HB.out
  obtain ⟨xw0, cw0, rfl, _, _, Rw0⟩ := rd_of_own Ow0
  clear Ow0
  have HL := Blw.refl w1
  have E0 := (Blw.out (by exact HL)).size
  go_wp2_with fail
  refine (toF_any _ _ _ X0 _ (by exact Z0.below (Blw.out (by exact HL))) h0).mono ?_
  rintro e0 w0 ⟨rfl, O0, B0⟩
  replace HL := Blw.next (by exact HL) B0
  have D0 := O0
  clear O0 B0
  have Qg0 := own_lt (by exact D0)
  have Eg := (Blw.out (by exact HL)).size
  go_wp2_with fail
  refine (HI.out _ _ _ (rd_own (by exact D0))).mono ?_
  rintro e0 w2 ⟨vg0, Yg0, rfl, Og0, Lg0, mg0, B0⟩
  replace D0 := own_below (by exact D0) B0
  replace HL := Blw.next (by exact HL) B0
  clear B0
  have O_0 := Og0
  obtain ⟨xg0, cg0, rfl, _, _, Rg0⟩ := rd_of_own O_0
  clear O_0
  go_wp2_with fail
  refine (eqF_any _ _ _ _ _ Yg0 Yw0 _ (by exact Rg0) (by exact Rw0.below (Blw.out (by exact HL))) mw0 (fun i hi => (Lg0 i hi).trans (Lw0 i hi).symm)).mono ?_
  rintro e0 w0 ⟨rfl, q, rfl⟩
  go_wp2_with fail
  refine (toF_any _ _ _ X0 _ (by exact Z0.below (Blw.out (by exact HL))) h0).mono ?_
  rintro e0 w0 ⟨rfl, O0, B0⟩
  replace D0 := own_below (by exact D0) B0
  replace Og0 := own_below (by exact Og0) B0
  replace HL := Blw.next (by exact HL) B0
  have K0 := O0
  clear O0 B0
  go_wp2_with fail
  refine (eqF_any _ _ _ _ _ X0 X0 _ (by exact rd_own (by exact D0)) (by exact rd_own (by exact K0)) h0 (fun _ _ => rfl)).mono ?_
  rintro e0 w0 ⟨rfl, q, rfl⟩
  clear K0
  go_wp2_with fail
  refine (markX_any _ _ n0 _ X0 _ _ (by exact D0) h0 (by omega) (by omega)).mono ?_
  rintro e0 w0 ⟨rfl, N0⟩
  replace Og0 := own_only (by exact Og0) (by exact Qg0) N0
  replace HL := Blw.only (by exact HL) E0 N0
  clear N0 D0
  have hk1 : (0 : Int) ≤ 1 + (n0 : Int) := by omega
  replace Rg0 := rd_own' (by exact Og0)
  go_wp2_with fail
  refine (eqF_any _ _ _ _ _ Yg0 Yw0 _ (by exact Rg0) (by exact Rw0.below (Blw.out (by exact HL))) mw0 (fun i hi => (Lg0 i hi).trans (Lw0 i hi).symm)).mono ?_
  rintro e0 w0 ⟨rfl, q, rfl⟩
  clear Rg0
  go_wp2_with fail
  refine (markF_any _ _ m0 Yg0 _ _ (by exact Og0) mg0 (by omega) (by omega)).mono ?_
  rintro e0 w0 ⟨rfl, Ok0, B0⟩
  replace HL := Blw.nextB (by exact HL) (B0.mono Eg)
  clear B0 Og0
  have hm1 : (0 : Int) ≤ 1 + (m0 : Int) := by omega
  go_wp2_with fail
  refine (heldF_any _ _ m0 _ _ (by exact Ok0) mg0 (by omega) (by omega)).mono ?_
  rintro e0 w0 ⟨rfl, rfl⟩
  go_wp2_with fail
  refine (toF_any _ _ _ X0 _ (by exact Z0.below (Blw.out (by exact HL))) h0).mono ?_
  rintro e0 w0 ⟨rfl, O0, B0⟩
  replace Ok0 := own_below (by exact Ok0) B0
  replace HL := Blw.next (by exact HL) B0
  have C0 := O0
  clear O0 B0
  go_wp2_with fail
  refine (HI.out _ _ _ (rd_own (by exact C0))).mono ?_
  rintro e0 w3 ⟨vh0, Yh0, rfl, Oh0, Lh0, mh0, B0⟩
  replace Ok0 := own_below (by exact Ok0) B0
  clear C0
  replace HL := Blw.next (by exact HL) B0
  clear B0
  obtain ⟨xh0, ch0, rfl, _, _, Rh0⟩ := rd_of_own Oh0
  clear Oh0
  go_wp2_with fail
  refine (eqF_any _ _ _ _ _ Yh0 Yw0 _ (by exact Rh0) (by exact Rw0.below (Blw.out (by exact HL))) mw0 (fun i hi => (Lh0 i hi).trans (Lw0 i hi).symm)).mono ?_
  rintro e0 w0 ⟨rfl, q, rfl⟩
  clear Rh0
  go_wp2_with fail
  refine (heldF_any _ _ m0 _ _ (by exact Ok0) mg0 (by omega) (by omega)).mono ?_
  rintro e0 w0 ⟨rfl, rfl⟩
  go_wp2
  go_ret
  exact ⟨rfl, (Blw.out (by exact HB)).trans ((Blw.out (by exact HL)).mono (Blw.out (by exact HB)).size)⟩
set_option maxRecDepth 100000 in
set_option maxHeartbeats 1600000 in
theorem lawScaledOf_any (W : World) (x0 : Option Addr) (n0 c0 : Nat) (X0 : Nat → Nat) (hX0 : Rd W x0 n0 X0) (_hw0 : ∀ j, j < n0 → (Lit.float .f32 (X0 j)).wf = true) :
    Calls Try.prog 4 #[.slice x0 n0 c0] W fun e w' => e = .returned (.bool true) ∧ Below W.heap.size W w' := by
  by_cases h0 : n0 ≤ 1048576
  · skip
    obtain ⟨R0, m0, r1, hs, hi⟩ := bothScaledOf n0 X0 h0 _hw0
    exact lawScaledOf_in W x0 n0 c0 X0 hX0 _hw0 h0 R0 m0 r1 (Lib.hid hs) (Lib.hid hi)
  · have h' : (1048576 : Int) < (n0 : Int) := by omega
    go_enter Try.func4, Try.ntmps4
    go_wp2
    go_ret
    exact ⟨rfl, (Blw.refl W).out⟩
set_option maxRecDepth 100000 in
theorem FnExactScaledOf_lifted (os : Os) (started : os.Started) (H : Type) (enc : TypeId × Value → H) :
    ReturnsInHanded {} Try.checked os 4 .any (Rows.fnExactScaledOfSpec.pre6 enc Try.prog Try.f4 Rows.fnExactScaledOfRow.domain false) (Rows.fnExactScaledOfSpec.post enc Try.prog Try.f4 false true false false) := by
  refine returnsInHanded_of_change (C := Try.checked) ownKnob_none started (by kernel_rfl) Try.func4
    (ChangeSpec.witness6 (enc := enc) (C := Try.checked) false ⟨#[], #[.slice none 0 0], []⟩ 8 (by kernel_rfl) (by kernel_rfl) (by kernel_rfl) (by kernel_rfl)) ?_
  intro W base args ds gs before hval0 hW _ _
  have hval : ∀ (j : Nat) t v, Try.f4.params[j]? = some t → args[j]? = some v → Value.okWide Try.prog W .any base t v := hval0
  have hW' := hW
  obtain ⟨p, q, hA0, hV, rfl, _, _⟩ := hW
  have hA : DataW.TrodAll enc Try.prog W 0 (fun _ => true) true Try.f4.params.toList args.toList ds p := hA0
  rw [Try.params4] at hA hval
  obtain ⟨v0, vs0, d0, ds0, p0, q0, hargs, rfl, rfl, h0, r0⟩ := trodAll_cons hA
  obtain ⟨rfl, rfl, rfl⟩ := trodAll_nil r0
  obtain rfl : args = #[v0] := by cases args; simp_all
  obtain ⟨rfl, rfl⟩ := trodVars_none hV
  obtain ⟨x0, n0, c0, rfl⟩ := okWide_slice Try.underlying22 (hval 0 22 v0 rfl rfl)
  have k0 := h0
  obtain ⟨_, _, a0, w0, g0⟩ := open_f32s Try.underlying22 Try.underlying31 cellsF h0
  have b0 : ∀ x ∈ p0, x.block < W.heap.size := fun x hx => by have := hW'.lt x (by simp [hx]); simpa using this
  clear hA0 hval0
  refine (lawScaledOf_any W x0 n0 c0 a0 w0 g0).mono fun e W' ⟨he, hb⟩ => ?_
  subst he
  have hA2 := trodAll_cons_mk (enc := enc) (w := W') (base := 0) (spare := fun b => decide (b < W.heap.size)) (held := true) (Below.trod laidOut (by kernel_rfl) (of_decide_eq_true (by kernel_rfl)) k0 hb b0) trodAll_mk0
  exact ⟨_, rfl, _, _, _, [], _, [], hW', trodAll_cons_mk (shut_bool Try.underlying4 _) trodAll_mk0, hA2, rfl, hb.frame _, fun h => by cases h⟩
theorem FnExactScaledOf_holds : Rows.FnExactScaledOfSaid :=
  OpenClaim.holds_of_wide 4 Try.f4 rfl rfl rfl rfl rfl rfl rfl ⟨rfl, rfl, rfl, rfl, rfl⟩ rfl rfl rfl rfl rfl (by kernel_rfl) Try.func4 (by kernel_rfl)
    (of_decide_eq_true (by kernel_rfl)) (by unfold Func.isWrapper; first | (rw [if_pos (by decide +kernel)]; kernel_rfl) | (rw [if_neg (by decide +kernel)]; exact ⟨rfl, rfl⟩))
    (fun os started H enc _ => FnExactScaledOf_lifted os started H enc)
end Go.Proofs.Ytehlflldnihamaa
