/- Of any list the program tells where it bends most just where the model does, and the same; the list is not changed: for all arguments. -/
import Derived.Test.YtchpnjihhncfmaaSame
import Derived.Test.YtchpnjihhncfmaaBen
import Derived.Test.YtchpnjihhncfmaaOrd
import Derived.Test.YtchpnjihhncfmaaIntL
import Derived.Test.YtchpnjihhncfmaaLiC
import Derived.Test.YtchpnjihhncfmaaLaw
import Derived.Deep.QuietTactic
import Derived.BigQuiet
namespace Go.Proofs.Ytchpnjihhncfmaa
open Go Go.ChangeShapes Go.WideShapes Go.ChangeAt Go.RowKit

def gtW (a b : Nat) : Bool := FloatKind.f32.format.order a b == some .gt
def geW (a b : Nat) : Bool := FloatKind.f32.format.order a b == some .gt || FloatKind.f32.format.order a b == some .eq
def topB (Y : Nat → Nat) (m i : Nat) : Bool := (decide (i = 0) || gtW (Y i) (Y (i - 1))) && (decide (i + 1 = m) || geW (Y i) (Y (i + 1)))
/-- At a first or a last place nothing is asked of what is not there. -/
theorem topB_00 {Y : Nat → Nat} {m : Nat} (h : m = 1) : topB Y m 0 = true := by subst h; rfl
theorem topB_01 {Y : Nat → Nat} {m : Nat} (h : m ≠ 1) : topB Y m 0 = geW (Y 0) (Y 1) := by
  unfold topB
  rw [decide_eq_true rfl, decide_eq_false (by omega)]; rfl
theorem topB_10 {Y : Nat → Nat} {m j : Nat} (h : m = j + 2) : topB Y m (j + 1) = gtW (Y (j + 1)) (Y j) := by
  unfold topB
  rw [decide_eq_false (by omega), decide_eq_true (by omega)]
  simp
theorem topB_11 {Y : Nat → Nat} {m j : Nat} (h : m ≠ j + 2) : topB Y m (j + 1) = (gtW (Y (j + 1)) (Y j) && geW (Y (j + 1)) (Y (j + 2))) := by
  unfold topB
  rw [decide_eq_false (by omega), decide_eq_false (by omega)]
  simp
set_option maxRecDepth 100000 in
set_option maxHeartbeats 1600000 in
theorem isTop_any (xa : Option Addr) (m cap : Nat) (Y : Nat → Nat) (i : Nat) (w : World) (hY : Rd w xa m Y) (hi : i < m) (hm : m ≤ 1048576) (b : Bool) (hb : b = topB Y m i) :
    Calls Try.prog 82 #[.slice xa m cap, .int .i64 (i : Int)] w fun e w' => e = .returned (.bool b) ∧ ∃ q, w' = w.drewN q := by
  obtain ⟨xb, xo, hxa, hcx⟩ := hY
  have e := hxa (by omega)
  subst e
  have w1 : IntKind.i64.wrap ((m : Int) - 1) = (m : Int) - 1 := by rw [IntKind.wrap_i64]; omega
  cases i with
  | zero =>
    have v0 : (0 : Int) < (m : Int) := by omega
    have r0 := hcx 0 (by omega)
    rw [Nat.add_zero] at r0
    by_cases h1 : m = 1
    · subst h1
      rw [topB_00 rfl] at hb
      subst hb
      clear hcx hxa
      go_enter Try.func82, Try.ntmps82
      go_wp2_with fail
      go_quiet (fail)
      go_wp2
      go_ret
      exact ⟨rfl, _, rfl⟩
    · rw [topB_01 h1, geW] at hb
      have r1 := hcx 1 (by omega)
      have v1 : (1 : Int) < (m : Int) := by omega
      have d2 : ((0 : Int) == (m : Int) - 1) = false := by simp; omega
      have HB := Lib.hid hb
      clear hcx hxa hb
      go_enter Try.func82, Try.ntmps82
      go_wp2_with fail
      go_quiet (fail)
      go_wp2
      go_ret
      exact ⟨ret_bool HB.out.symm, _, rfl⟩
  | succ j =>
    have r1 := hcx (j + 1) hi
    have r0 := hcx j (by omega)
    have v1 : (j : Int) + 1 < (m : Int) := by omega
    have u1 : (0 : Int) ≤ (j : Int) + 1 := by omega
    have v0 : (j : Int) < (m : Int) := by omega
    have u0 : (0 : Int) ≤ (j : Int) := by omega
    have d1 : ((j : Int) + 1 == 0) = false := by simp; omega
    have w3 : (j : Int) + 1 - 1 = (j : Int) := by omega
    rw [show ((j + 1 : Nat) : Int) = (j : Int) + 1 by omega]
    by_cases h1 : m = j + 2
    · rw [topB_10 h1, gtW] at hb
      have d2 : ((j : Int) + 1 == (m : Int) - 1) = true := by simp; omega
      have HB := Lib.hid hb
      clear hcx hxa hb h1
      cases g1 : (FloatKind.f32.format.order (Y (j + 1)) (Y j) == some .gt)
      · have HN := Lib.hid (show false = b by rw [HB.out, g1])
        clear HB
        go_enter Try.func82, Try.ntmps82
        go_wp2_with fail
        go_quiet (fail)
        go_wp2
        go_ret
        exact ⟨ret_bool HN.out, _, rfl⟩
      · have HN := Lib.hid (show true = b by rw [HB.out, g1])
        clear HB
        go_enter Try.func82, Try.ntmps82
        go_wp2_with fail
        go_quiet (fail)
        go_wp2
        go_ret
        exact ⟨ret_bool HN.out, _, rfl⟩
    · rw [topB_11 h1, gtW, geW] at hb
      have r2 := hcx (j + 2) (by omega)
      have v2 : (j : Int) + 2 < (m : Int) := by omega
      have u2 : (0 : Int) ≤ (j : Int) + 2 := by omega
      have d2 : ((j : Int) + 1 == (m : Int) - 1) = false := by simp; omega
      have v3 : (j : Int) + 1 + 1 = (j : Int) + 2 := by omega
      have HB := Lib.hid hb
      clear hcx hxa hb h1
      cases g1 : (FloatKind.f32.format.order (Y (j + 1)) (Y j) == some .gt)
      · have HN := Lib.hid (show false = b by rw [HB.out, g1]; rfl)
        clear HB
        go_enter Try.func82, Try.ntmps82
        go_wp2_with fail
        go_quiet (fail)
        go_wp2
        go_ret
        exact ⟨ret_bool HN.out, _, rfl⟩
      · have HN := Lib.hid (show (FloatKind.f32.format.order (Y (j + 1)) (Y (j + 2)) == some .gt || FloatKind.f32.format.order (Y (j + 1)) (Y (j + 2)) == some .eq) = b by rw [HB.out, g1]; rfl)
        clear HB
        go_enter Try.func82, Try.ntmps82
        go_wp2_with fail
        go_quiet (fail)
        go_wp2
        go_ret
        exact ⟨ret_bool HN.out, _, rfl⟩
/-- What is told of BentPeaks. -/
def RetBentPeaks (R0 : Nat → Int) (m0 : Nat) (r1 : Bool) (w : World) (e : Ending) (w' : World) : Prop := ∃ (v0 : Value), e = .returned (.tuple #[v0, .bool r1]) ∧ w'.ownsRow w.heap.size 2 1 v0 m0 (rowI R0 m0) ∧ m0 ≤ 1048576 ∧ Below w.heap.size w w'
def pkB (Y : Nat → Nat) (t m i : Nat) : Bool := gtW (Y i) t && topB Y m i
/-- The peaks among the first k places. -/
def pks (Y : Nat → Nat) (t m : Nat) : Nat → List Int
  | 0 => []
  | k + 1 => if pkB Y t m k = true then pks Y t m k ++ [(k : Int) + 1] else pks Y t m k
theorem pks_len (Y : Nat → Nat) (t m : Nat) : ∀ k, (pks Y t m k).length ≤ k := by
  intro k
  induction k with
  | zero => exact Nat.le_refl _
  | succ k ih =>
    unfold pks
    split
    · rw [List.length_append]
      exact Nat.succ_le_succ ih
    · omega
theorem bpkNo {R : Nat → Int} {w w' : World} (hb : Below w.heap.size w w') : RetBentPeaks R 0 false w (.returned (.tuple #[.slice none 0 0, .bool false])) w' :=
  ⟨_, rfl, World.ownsRow_nil _ _ _ _, Nat.zero_le _, hb⟩
theorem like_fin {Z R : Nat → Nat} {c : Nat} (h : Like Z R c) (hf : finL R c = true) : ∀ j, j < c → Z j = R j := fun j hj => by
  have h1 := h j hj
  have h2 : isNaN .f32 (R j) = false := num_fin (finL_at hf j hj)
  have h3 : isNaN .f32 (Z j) = false := by rw [isNaN_of_canon h1]; exact h2
  rw [canon_num h2, canon_num h3] at h1
  exact h1
/-- The bends, where there are any, word for word. -/
def benAll (X : Nat → Nat) (n : Nat) : Bool := benOk X n && finL (benR X) (benN n)
theorem benRet_no {X : Nat → Nat} {n : Nat} {w w' : World} {e : Ending} (hk : benAll X n = false) (h : BenRet X n w e w') : ∃ v, e = .returned (.tuple #[v, .bool false]) ∧ Below w.heap.size w w' := by
  obtain ⟨v, Z, he, _, _, hb⟩ := h
  exact ⟨v, by rw [he]; unfold benAll at hk; rw [hk], hb⟩
theorem benRet_yes {X : Nat → Nat} {n : Nat} {w w' : World} {e : Ending} (hk : benAll X n = true) (h : BenRet X n w e w') : ∃ v, e = .returned (.tuple #[v, .bool true]) ∧ w'.ownsRow w.heap.size 23 1 v (benN n) (rowOf (benR X) (benN n)) ∧ Below w.heap.size w w' := by
  obtain ⟨v, Z, he, ho, hl, hb⟩ := h
  unfold benAll at hk
  have hf : finL (benR X) (benN n) = true := by rw [Bool.and_eq_true] at hk; exact hk.2
  rw [hk, if_pos rfl] at ho hl
  refine ⟨v, by rw [he, hk], ?_, hb⟩
  rw [← rowOf_congr (like_fin hl hf)]
  exact ho
set_option maxRecDepth 100000 in
set_option maxHeartbeats 3200000 in
theorem specBpk_no (xa : Option Addr) (n cap : Nat) (X : Nat → Nat) (t : Nat) (w : World) (R : Nat → Int) (hX : Rd w xa n X) (hn : n ≤ 1048576) (hk : (benAll X n && isFin .f32 t) = false) :
    Calls Try.prog 31 #[.slice xa n cap, .float .f32 t] w (RetBentPeaks R 0 false w) := by
  have HB := Lib.hid (specBen_any xa n cap X w hX hn)
  cases c1 : benAll X n
  · have HB' := Lib.hid (HB.out.mono fun e w' h => benRet_no c1 h)
    clear hk HB
    go_enter Try.func31, Try.ntmps31
    go_wp2_with (first | (go_at_call 78; refine HB'.out.mono ?_; rintro e w1 ⟨v, rfl, hb⟩))
    go_ret2
    exact bpkNo hb
  · have c2 : isFin .f32 t = false := by rw [c1, Bool.true_and] at hk; exact hk
    have HB' := Lib.hid (HB.out.mono fun e w' h => benRet_yes c1 h)
    clear hk HB
    go_enter Try.func31, Try.ntmps31
    go_wp2_with (first | (go_at_call 78; refine HB'.out.mono ?_; rintro e w1 ⟨v, rfl, ho, hb⟩) | (first | (go_at_call 79; refine (l01Finite_any _ _).mono ?_; rintro e w' ⟨rfl, q, rfl⟩)))
    go_ret2
    refine bpkNo ?_
    exact Below.drewN hb _
set_option maxRecDepth 100000 in
set_option maxHeartbeats 3200000 in
theorem implBpk_no (xa : Option Addr) (n cap : Nat) (X : Nat → Nat) (t : Nat) (w : World) (R : Nat → Int) (hX : Rd w xa n X) (hc : n ≤ cap) (hn : n ≤ 1048576) (hk : (benAll X n && isFin .f32 t) = false) :
    Calls Try.prog 32 #[.slice xa n cap, .float .f32 t] w (RetBentPeaks R 0 false w) := by
  have HB := Lib.hid (implBen_any xa n cap X w hX hc hn)
  cases c1 : benAll X n
  · have HB' := Lib.hid (HB.out.mono fun e w' h => benRet_no c1 h)
    clear hk HB
    go_enter Try.func32, Try.ntmps32
    go_wp2_with (first | (go_at_call 80; refine HB'.out.mono ?_; rintro e w1 ⟨v, rfl, hb⟩))
    go_ret2
    exact bpkNo hb
  · have c2 : isFin .f32 t = false := by rw [c1, Bool.true_and] at hk; exact hk
    have HB' := Lib.hid (HB.out.mono fun e w' h => benRet_yes c1 h)
    clear hk HB
    go_enter Try.func32, Try.ntmps32
    go_wp2_with (first | (go_at_call 80; refine HB'.out.mono ?_; rintro e w1 ⟨v, rfl, ho, hb⟩) | (first | (go_at_call 81; refine (IsFinite_any _ _).mono ?_; rintro e w' ⟨rfl, q, rfl⟩)))
    go_ret2
    refine bpkNo ?_
    exact Below.drewN hb _
theorem ownI_mono0 {w : World} {B B' e : Nat} {v : Value} {n : Nat} {xs : List Value} (h : w.ownsRow B e 1 v n xs) (hB : B' ≤ B) : w.ownsRow B' e 1 v n xs := own_mono0 h hB
set_option maxRecDepth 100000 in
set_option maxHeartbeats 6400000 in
theorem specBpk_yes (xa : Option Addr) (n cap : Nat) (X : Nat → Nat) (t : Nat) (w : World) (hX : Rd w xa n X) (hc : n ≤ cap) (hn : n ≤ 1048576) (hk1 : benAll X n = true) (hk2 : isFin .f32 t = true) (m : Nat) (hm : m = benN n) (Y : Nat → Nat) (hY : Hid (Y = benR X)) (O : Nat → List Int) (hO : Hid (O = pks (benR X) t (benN n))) :
    Calls Try.prog 31 #[.slice xa n cap, .float .f32 t] w (RetBentPeaks (ordR (O m)) (O m).length true w) := by
  obtain ⟨i0, hi, hz0, hz1, hz2⟩ := info_parts infoI
  have HB := Lib.hid ((specBen_any xa n cap X w hX hn).mono fun e w' h => benRet_yes hk1 h)
  rw [← hm, ← hY.out] at HB
  have hml : m ≤ 1048576 := by rw [hm]; unfold benN; omega
  have HL := Lib.hid (show ∀ k, (O k).length ≤ k from fun k => by rw [hO.out]; exact pks_len _ _ _ k)
  have HS := Lib.hid (show ∀ k, O (k + 1) = if pkB Y t m k = true then O k ++ [(k : Int) + 1] else O k from fun k => by rw [hO.out, hY.out, hm]; rfl)
  have H0 : O 0 = [] := by rw [hO.out]; rfl
  clear hk1 hm hY hO hX
  go_enter Try.func31, Try.ntmps31
  go_wp2_with fail
  refine HB.out.mono ?_
  rintro e w1 ⟨v, rfl, ho, hb⟩
  obtain ⟨ya, yc, rfl, _, _, hYr⟩ := rd_of_own ho
  have HYr := Lib.hid (show ∀ w', Below w1.heap.size w1 w' → Rd w' ya m Y from fun w' h => hYr.below h)
  have hbs := hb.size
  clear ho hYr HB
  go_wp2_with (first | (go_at_call 79; refine (l01Finite_any _ _).mono ?_; rintro e w' ⟨rfl, q, rfl⟩))
  go_loopw [8, 25] (fun v i wr => ∃ k : Nat, k ≤ m ∧ i = .int .i64 (k : Int) ∧ wr.ownsRow w1.heap.size 2 1 v (O k).length (rowI (ordR (O k)) (O k).length) ∧ Below w1.heap.size w1 wr) (fun _ i _ => m - (intOf i).toNat)
  case atStart =>
    refine ⟨0, Nat.zero_le _, rfl, ?_, Below.alloc (Below.drewN (Below.refl _ _) _) (Nat.le_refl _) _⟩
    rw [H0]
    exact ownI_empty _ _
  case round =>
    obtain ⟨k, hk, rfl, hownk, hBk⟩ := hrel
    have hsz := hBk.size
    by_cases hlt : k < m
    · have hle := HL.out k
      have hrd := HYr.out wr hBk
      have HE := Lib.hid (HS.out k)
      obtain ⟨xb, xo, hxa, hcx⟩ := hrd
      have e := hxa (by omega)
      subst e
      cases k with
      | zero =>
        have r0 := hcx 0 (by omega)
        rw [Nat.add_zero] at r0
        have v0 : (0 : Int) < (m : Int) := by omega
        cases g0 : (FloatKind.f32.format.order (Y 0) t == some .gt)
        · have HP := Lib.hid (show pkB Y t m 0 = false by rw [pkB, gtW, g0]; rfl)
          clear hcx hxa HYr
          have HE' := Lib.hid (show O (0 + 1) = O (0) by rw [HE.out, HP.out, if_neg (by simp)])
          go_wp2_with fail
          go_quiet (fail)
          go_wp2
          go_roundw
          case rel => exact ⟨0 + 1, by omega, by go_num, by rw [HE'.out]; exact hownk, by first | exact hBk | exact Below.drewN hBk _⟩
          case measure => simp [intOf]; omega
        · by_cases h1 : m = 1
          · have HP := Lib.hid (show pkB Y t m 0 = true by rw [pkB, gtW, g0, topB_00 h1]; rfl)
            have d2 : ((1 : Int) == (m : Int)) = true := by simp; omega
            clear hcx hxa HYr h1
            have HE' := Lib.hid (show O (0 + 1) = O (0) ++ [((0 : Nat) : Int) + 1] by rw [HE.out, HP.out, if_pos rfl])
            go_wp2_with fail
            go_quiet (fail)
            go_wp2_with (at_builtin; refine wpL_pushI hi hz0 hz1 hz2 rfl rfl rfl rfl (by rfl) (by exact hownk) (by omega) (by exact hsz) ?_; intro v' w2 hown' hB')
            go_roundw
            case rel => exact ⟨0 + 1, by omega, by go_num, by rw [HE'.out, ← ordR_push, List.length_append]; exact hown', Below.trans (by first | exact hBk | exact Below.drewN hBk _) hB'⟩
            case measure => simp [intOf]; omega
          · have d2 : ((1 : Int) == (m : Int)) = false := by simp; omega
            have r1 := hcx 1 (by omega)
            have v1 : (1 : Int) < (m : Int) := by omega
            clear hcx hxa HYr
            cases g2 : (FloatKind.f32.format.order (Y 0) (Y 1) == some .gt || FloatKind.f32.format.order (Y 0) (Y 1) == some .eq)
            · have HP := Lib.hid (show pkB Y t m 0 = false by rw [pkB, gtW, g0, topB_01 h1, geW, g2]; rfl)
              have HE' := Lib.hid (show O (0 + 1) = O (0) by rw [HE.out, HP.out, if_neg (by simp)])
              go_wp2_with fail
              go_quiet (fail)
              go_wp2
              go_roundw
              case rel => exact ⟨0 + 1, by omega, by go_num, by rw [HE'.out]; exact hownk, by first | exact hBk | exact Below.drewN hBk _⟩
              case measure => simp [intOf]; omega
            · have HP := Lib.hid (show pkB Y t m 0 = true by rw [pkB, gtW, g0, topB_01 h1, geW, g2]; rfl)
              have HE' := Lib.hid (show O (0 + 1) = O (0) ++ [((0 : Nat) : Int) + 1] by rw [HE.out, HP.out, if_pos rfl])
              go_wp2_with fail
              go_quiet (fail)
              go_wp2_with (at_builtin; refine wpL_pushI hi hz0 hz1 hz2 rfl rfl rfl rfl (by rfl) (by exact hownk) (by omega) (by exact hsz) ?_; intro v' w2 hown' hB')
              go_roundw
              case rel => exact ⟨0 + 1, by omega, by go_num, by rw [HE'.out, ← ordR_push, List.length_append]; exact hown', Below.trans (by first | exact hBk | exact Below.drewN hBk _) hB'⟩
              case measure => simp [intOf]; omega
      | succ j =>
        have r1 := hcx (j + 1) hlt
        have r0 := hcx j (by omega)
        have v1 : (j : Int) + 1 < (m : Int) := by omega
        have u1 : (0 : Int) ≤ (j : Int) + 1 := by omega
        have v0 : (j : Int) < (m : Int) := by omega
        have u0 : (0 : Int) ≤ (j : Int) := by omega
        have d1 : ((j : Int) + 1 == 0) = false := by simp; omega
        have w3 : (j : Int) + 1 - 1 = (j : Int) := by omega
        have v3 : (j : Int) + 1 + 1 = (j : Int) + 2 := by omega
        have w4 : IntKind.i64.wrap ((j : Int) + 2) = (j : Int) + 2 := by rw [IntKind.wrap_i64]; omega
        rw [show ((j + 1 : Nat) : Int) = (j : Int) + 1 by omega]
        cases g0 : (FloatKind.f32.format.order (Y (j + 1)) t == some .gt)
        · have HP := Lib.hid (show pkB Y t m (j + 1) = false by rw [pkB, gtW, g0]; rfl)
          clear hcx hxa HYr
          have HE' := Lib.hid (show O ((j + 1) + 1) = O ((j + 1)) by rw [HE.out, HP.out, if_neg (by simp)])
          go_wp2_with fail
          go_quiet (fail)
          go_wp2
          go_roundw
          case rel => exact ⟨(j + 1) + 1, by omega, by go_num, by rw [HE'.out]; exact hownk, by first | exact hBk | exact Below.drewN hBk _⟩
          case measure => simp [intOf]; omega
        · cases g1 : (FloatKind.f32.format.order (Y (j + 1)) (Y j) == some .gt)
          · have HP := Lib.hid (show pkB Y t m (j + 1) = false by
              rw [pkB, gtW, g0]
              by_cases h1 : m = j + 2
              · rw [topB_10 h1, gtW, g1]; rfl
              · rw [topB_11 h1, gtW, g1]; rfl)
            clear hcx hxa HYr
            have HE' := Lib.hid (show O ((j + 1) + 1) = O ((j + 1)) by rw [HE.out, HP.out, if_neg (by simp)])
            go_wp2_with fail
            go_quiet (fail)
            go_wp2
            go_roundw
            case rel => exact ⟨(j + 1) + 1, by omega, by go_num, by rw [HE'.out]; exact hownk, by first | exact hBk | exact Below.drewN hBk _⟩
            case measure => simp [intOf]; omega
          · by_cases h1 : m = j + 2
            · have HP := Lib.hid (show pkB Y t m (j + 1) = true by rw [pkB, gtW, g0, topB_10 h1, gtW, g1]; rfl)
              have d2 : ((j : Int) + 2 == (m : Int)) = true := by simp; omega
              clear hcx hxa HYr h1
              have HE' := Lib.hid (show O ((j + 1) + 1) = O ((j + 1)) ++ [(((j + 1) : Nat) : Int) + 1] by rw [HE.out, HP.out, if_pos rfl])
              go_wp2_with fail
              go_quiet (fail)
              go_wp2_with (at_builtin; refine wpL_pushI hi hz0 hz1 hz2 rfl rfl rfl rfl (by rfl) (by exact hownk) (by omega) (by exact hsz) ?_; intro v' w2 hown' hB')
              go_roundw
              case rel => exact ⟨(j + 1) + 1, by omega, by go_num, by rw [HE'.out, ← ordR_push, List.length_append]; exact hown', Below.trans (by first | exact hBk | exact Below.drewN hBk _) hB'⟩
              case measure => simp [intOf]; omega
            · have d2 : ((j : Int) + 2 == (m : Int)) = false := by simp; omega
              have r2 := hcx (j + 2) (by omega)
              have v2 : (j : Int) + 2 < (m : Int) := by omega
              have u2 : (0 : Int) ≤ (j : Int) + 2 := by omega
              clear hcx hxa HYr
              cases g2 : (FloatKind.f32.format.order (Y (j + 1)) (Y (j + 2)) == some .gt || FloatKind.f32.format.order (Y (j + 1)) (Y (j + 2)) == some .eq)
              · have HP := Lib.hid (show pkB Y t m (j + 1) = false by rw [pkB, gtW, g0, topB_11 h1, gtW, g1, geW, g2]; rfl)
                have HE' := Lib.hid (show O ((j + 1) + 1) = O ((j + 1)) by rw [HE.out, HP.out, if_neg (by simp)])
                go_wp2_with fail
                go_quiet (fail)
                go_wp2
                go_roundw
                case rel => exact ⟨(j + 1) + 1, by omega, by go_num, by rw [HE'.out]; exact hownk, by first | exact hBk | exact Below.drewN hBk _⟩
                case measure => simp [intOf]; omega
              · have HP := Lib.hid (show pkB Y t m (j + 1) = true by rw [pkB, gtW, g0, topB_11 h1, gtW, g1, geW, g2]; rfl)
                have HE' := Lib.hid (show O ((j + 1) + 1) = O ((j + 1)) ++ [(((j + 1) : Nat) : Int) + 1] by rw [HE.out, HP.out, if_pos rfl])
                go_wp2_with fail
                go_quiet (fail)
                go_wp2_with (at_builtin; refine wpL_pushI hi hz0 hz1 hz2 rfl rfl rfl rfl (by rfl) (by exact hownk) (by omega) (by exact hsz) ?_; intro v' w2 hown' hB')
                go_roundw
                case rel => exact ⟨(j + 1) + 1, by omega, by go_num, by rw [HE'.out, ← ordR_push, List.length_append]; exact hown', Below.trans (by first | exact hBk | exact Below.drewN hBk _) hB'⟩
                case measure => simp [intOf]; omega
    · have hkn : k = m := by omega
      subst hkn
      have hle := HL.out k
      go_wp2
      go_ret2
      exact ⟨_, rfl, ownI_mono0 hownk hbs, by omega, hb.trans (hBk.mono hbs)⟩
set_option maxRecDepth 100000 in
set_option maxHeartbeats 6400000 in
theorem implBpk_yes (xa : Option Addr) (n cap : Nat) (X : Nat → Nat) (t : Nat) (w : World) (hX : Rd w xa n X) (hc : n ≤ cap) (hn : n ≤ 1048576) (hk1 : benAll X n = true) (hk2 : isFin .f32 t = true) (m : Nat) (hm : m = benN n) (Y : Nat → Nat) (hY : Hid (Y = benR X)) (O : Nat → List Int) (hO : Hid (O = pks (benR X) t (benN n))) :
    Calls Try.prog 32 #[.slice xa n cap, .float .f32 t] w (RetBentPeaks (ordR (O m)) (O m).length true w) := by
  obtain ⟨i0, hi, hz0, hz1, hz2⟩ := info_parts infoI
  have HB := Lib.hid ((implBen_any xa n cap X w hX hc hn).mono fun e w' h => benRet_yes hk1 h)
  rw [← hm, ← hY.out] at HB
  have hml : m ≤ 1048576 := by rw [hm]; unfold benN; omega
  have HL := Lib.hid (show ∀ k, (O k).length ≤ k from fun k => by rw [hO.out]; exact pks_len _ _ _ k)
  have HS := Lib.hid (show ∀ k, O (k + 1) = if pkB Y t m k = true then O k ++ [(k : Int) + 1] else O k from fun k => by rw [hO.out, hY.out, hm]; rfl)
  have H0 : O 0 = [] := by rw [hO.out]; rfl
  clear hk1 hm hY hO hX
  go_enter Try.func32, Try.ntmps32
  go_wp2_with fail
  refine HB.out.mono ?_
  rintro e w1 ⟨v, rfl, ho, hb⟩
  obtain ⟨ya, yc, rfl, _, _, hYr⟩ := rd_of_own ho
  have HYr := Lib.hid (show ∀ w', Below w1.heap.size w1 w' → Rd w' ya m Y from fun w' h => hYr.below h)
  have hbs := hb.size
  clear ho hYr HB
  go_wp2_with (first | (go_at_call 81; refine (IsFinite_any _ _).mono ?_; rintro e w' ⟨rfl, q, rfl⟩))
  go_loopw [8, 25] (fun v i wr => ∃ k : Nat, k ≤ m ∧ i = .int .i64 (k : Int) ∧ wr.ownsRow w1.heap.size 2 1 v (O k).length (rowI (ordR (O k)) (O k).length) ∧ Below w1.heap.size w1 wr) (fun _ i _ => m - (intOf i).toNat)
  case atStart =>
    refine ⟨0, Nat.zero_le _, rfl, ?_, Below.drewN (Below.refl _ _) _⟩
    rw [H0]
    exact World.ownsRow_nil _ _ _ _
  case round =>
    obtain ⟨k, hk, rfl, hownk, hBk⟩ := hrel
    have hsz := hBk.size
    by_cases hlt : k < m
    · have hle := HL.out k
      have hrd := HYr.out wr hBk
      have HE := Lib.hid (HS.out k)
      obtain ⟨xb, xo, hxa, hcx⟩ := hrd
      have e := hxa (by omega)
      subst e
      have r1 := hcx k hlt
      have HRd := Lib.hid (show Rd wr (some ⟨xb, xo, none⟩) m Y from ⟨xb, xo, fun _ => rfl, hcx⟩)
      clear hcx hxa HYr
      cases g0 : (FloatKind.f32.format.order (Y k) t == some .gt)
      · have HP := Lib.hid (show pkB Y t m k = false by rw [pkB, gtW, g0]; rfl)
        have HE' := Lib.hid (show O (k + 1) = O (k) by rw [HE.out, HP.out, if_neg (by simp)])
        go_wp2
        go_roundw
        case rel => exact ⟨k + 1, by omega, by go_num, by rw [HE'.out]; exact hownk, by first | exact hBk | exact Below.drewN hBk _⟩
        case measure => simp [intOf]; omega
      · cases b : topB Y m k
        · have HP := Lib.hid (show pkB Y t m k = false by rw [pkB, gtW, g0, b]; rfl)
          have HE' := Lib.hid (show O (k + 1) = O (k) by rw [HE.out, HP.out, if_neg (by simp)])
          go_wp2_with (first | (go_at_call 82; refine (isTop_any _ _ _ Y k _ (by exact HRd.out) hlt hml _ b.symm).mono ?_; rintro e w' ⟨rfl, q, rfl⟩))
          go_roundw
          case rel => exact ⟨k + 1, by omega, by go_num, by rw [HE'.out]; exact hownk, by first | exact hBk | exact Below.drewN hBk _⟩
          case measure => simp [intOf]; omega
        · have HP := Lib.hid (show pkB Y t m k = true by rw [pkB, gtW, g0, b]; rfl)
          have HE' := Lib.hid (show O (k + 1) = O (k) ++ [((k : Nat) : Int) + 1] by rw [HE.out, HP.out, if_pos rfl])
          go_wp2_with (first | (go_at_call 82; refine (isTop_any _ _ _ Y k _ (by exact HRd.out) hlt hml _ b.symm).mono ?_; rintro e w' ⟨rfl, q, rfl⟩) | (at_builtin; refine wpL_pushI hi hz0 hz1 hz2 rfl rfl rfl rfl (by rfl) (by exact hownk) (by omega) (by exact hsz) ?_; intro v' w2 hown' hB'))
          go_roundw
          case rel => exact ⟨k + 1, by omega, by go_num, by rw [HE'.out, ← ordR_push, List.length_append]; exact hown', Below.trans (by first | exact hBk | exact Below.drewN hBk _) hB'⟩
          case measure => simp [intOf]; omega
    · have hkn : k = m := by omega
      subst hkn
      have hle := HL.out k
      go_wp2
      go_ret2
      exact ⟨_, rfl, ownI_mono0 hownk hbs, by omega, hb.trans (hBk.mono hbs)⟩
theorem bothBentPeaks (n : Nat) (X : Nat → Nat) (hn : n ≤ 1048576) (t : Nat) (_ : (Lit.float .f32 t).wf = true) :
    ∃ (R : Nat → Int) (c : Nat) (ok : Bool), (∀ (xa : Option Addr) (cx : Nat) (w : World), Rd w xa n X → n ≤ cx → Calls Try.prog 31 #[.slice xa n cx, .float .f32 t] w (RetBentPeaks R c ok w)) ∧
      ∀ (xa : Option Addr) (cx : Nat) (w : World), Rd w xa n X → n ≤ cx → Calls Try.prog 32 #[.slice xa n cx, .float .f32 t] w (RetBentPeaks R c ok w) := by
  cases hk : (benAll X n && isFin .f32 t)
  · exact ⟨fun _ => 0, 0, false, fun xa cx w hX _ => specBpk_no xa n cx X t w _ hX hn hk, fun xa cx w hX hc => implBpk_no xa n cx X t w _ hX hc hn hk⟩
  · rw [Bool.and_eq_true] at hk
    exact ⟨_, _, true, fun xa cx w hX hc => specBpk_yes xa n cx X t w hX hc hn hk.1 hk.2 _ rfl _ (Lib.hid rfl) _ (Lib.hid rfl), fun xa cx w hX hc => implBpk_yes xa n cx X t w hX hc hn hk.1 hk.2 _ rfl _ (Lib.hid rfl) _ (Lib.hid rfl)⟩
set_option maxRecDepth 100000 in
set_option maxHeartbeats 6400000 in
theorem lawBentPeaks_in (W : World) (x0 : Option Addr) (n0 c0 : Nat) (X0 : Nat → Nat) (hX0 : Rd W x0 n0 X0) (a1 : Nat) (_wf1 : (Lit.float .f32 a1).wf = true) (h0 : n0 ≤ 1048576) (R0 : Nat → Int) (m0 : Nat) (r1 : Bool) (HS : Hid (∀ (x0 : Option Addr) (c0 : Nat) (w : World), Rd w x0 n0 X0 → n0 ≤ c0 → Calls Try.prog 31 #[.slice x0 n0 c0, .float .f32 a1] w (RetBentPeaks R0 m0 r1 w))) (HI : Hid (∀ (x0 : Option Addr) (c0 : Nat) (w : World), Rd w x0 n0 X0 → n0 ≤ c0 → Calls Try.prog 32 #[.slice x0 n0 c0, .float .f32 a1] w (RetBentPeaks R0 m0 r1 w))) :
    Calls Try.prog 6 #[.slice x0 n0 c0, .float .f32 a1] W fun e w' => e = .returned (.bool true) ∧ Below W.heap.size W w' := by
  have hcv := fun (R : Nat) (s t : Nat) => show canon .f64 (pick .f64 (fconv .f32 (pick .f32 R s) .f64) t) = canon .f64 (fconv .f32 R .f64) by rw [canon_pick, fconv_pick]
  have hcw := fun (R : Nat) (s t : Nat) => show canon .f64 (pick .f64 R s) = canon .f64 (pick .f64 R t) by rw [canon_pick, canon_pick]
  have HCV := Lib.hid hcv
  have HCW := Lib.hid hcw
  clear hcv hcw
  have hnb1 : (r1 != r1) = false := by simp
  have HB := Blw.refl W
  go_enter Try.func6, Try.ntmps6
  go_wp2_with fail
  refine (toF_any _ _ _ X0 _ (by exact hX0.below (Blw.out (by exact HB))) h0).mono ?_
  rintro e0 w0 ⟨rfl, O0, B0⟩
  replace HB := Blw.next (by exact HB) B0
  have C0 := O0
  clear O0 B0
  go_wp2_with fail
  refine (HS.out _ _ _ (rd_own (by exact C0)) (Nat.le_refl _)).mono ?_
  rintro e0 w1 ⟨vw0, rfl, Ow0, mw0, B0⟩
  clear C0
  replace HB := Blw.next (by exact HB) B0
  clear B0
  have Z0 := hX0.below HB.out
  obtain ⟨xw0, cw0, rfl, _, _, Rw0⟩ := rdI_of_own Ow0
  clear Ow0
  have HL := Blw.refl w1
  have E0 := (Blw.out (by exact HL)).size
  go_wp2_with fail
  refine (toF_any _ _ _ X0 _ (by exact Z0.below (Blw.out (by exact HL))) h0).mono ?_
  rintro e0 w0 ⟨rfl, O0, B0⟩
  replace HL := Blw.next (by exact HL) B0
  have D0 := O0
  clear O0 B0
  have Qg0 := own_lt (by exact D0)
  have Eg := (Blw.out (by exact HL)).size
  go_wp2_with fail
  refine (HI.out _ _ _ (rd_own (by exact D0)) (Nat.le_refl _)).mono ?_
  rintro e0 w2 ⟨vg0, rfl, Og0, mg0, B0⟩
  replace D0 := own_below (by exact D0) B0
  replace HL := Blw.next (by exact HL) B0
  clear B0
  have O_0 := Og0
  obtain ⟨xg0, cg0, rfl, _, _, Rg0⟩ := rdI_of_own O_0
  clear O_0
  go_wp2_with fail
  refine (eqI_any _ _ _ _ _ R0 _ (by exact Rg0) (by exact Rw0.below (Blw.out (by exact HL))) mw0).mono ?_
  rintro e0 w0 ⟨rfl, q, rfl⟩
  go_wp2_with fail
  refine (toF_any _ _ _ X0 _ (by exact Z0.below (Blw.out (by exact HL))) h0).mono ?_
  rintro e0 w0 ⟨rfl, O0, B0⟩
  replace D0 := own_below (by exact D0) B0
  replace Og0 := own_below (by exact Og0) B0
  replace HL := Blw.next (by exact HL) B0
  have K0 := O0
  clear O0 B0
  go_wp2_with fail
  refine (eqF_any _ _ _ _ _ X0 X0 _ (by exact rd_own (by exact D0)) (by exact rd_own (by exact K0)) h0 (fun _ _ => rfl)).mono ?_
  rintro e0 w0 ⟨rfl, q, rfl⟩
  clear K0
  go_wp2_with fail
  refine (markX_any _ _ n0 _ X0 _ _ (by exact D0) h0 (by omega) (by omega)).mono ?_
  rintro e0 w0 ⟨rfl, N0⟩
  replace Og0 := own_only (by exact Og0) (by exact Qg0) N0
  replace HL := Blw.only (by exact HL) E0 N0
  clear N0 D0
  have hk1 : (0 : Int) ≤ 1 + (n0 : Int) := by omega
  replace Rg0 := rdI_own' (by exact Og0)
  go_wp2_with fail
  refine (eqI_any _ _ _ _ _ R0 _ (by exact Rg0) (by exact Rw0.below (Blw.out (by exact HL))) mw0).mono ?_
  rintro e0 w0 ⟨rfl, q, rfl⟩
  clear Rg0
  go_wp2_with fail
  refine (markI_any _ _ m0 R0 _ _ (by exact Og0) mg0 (by omega) (by omega)).mono ?_
  rintro e0 w0 ⟨rfl, Ok0, B0⟩
  replace HL := Blw.nextB (by exact HL) (B0.mono Eg)
  clear B0 Og0
  have hm1 : (0 : Int) ≤ 1 + (m0 : Int) := by omega
  go_wp2_with fail
  refine (heldI_any _ _ m0 _ _ (by exact Ok0) mg0 (by omega) (by omega)).mono ?_
  rintro e0 w0 ⟨rfl, rfl⟩
  go_wp2_with fail
  refine (toF_any _ _ _ X0 _ (by exact Z0.below (Blw.out (by exact HL))) h0).mono ?_
  rintro e0 w0 ⟨rfl, O0, B0⟩
  replace Ok0 := own_below (by exact Ok0) B0
  replace HL := Blw.next (by exact HL) B0
  have C0 := O0
  clear O0 B0
  go_wp2_with fail
  refine (HI.out _ _ _ (rd_own (by exact C0)) (Nat.le_refl _)).mono ?_
  rintro e0 w3 ⟨vh0, rfl, Oh0, mh0, B0⟩
  replace Ok0 := own_below (by exact Ok0) B0
  clear C0
  replace HL := Blw.next (by exact HL) B0
  clear B0
  obtain ⟨xh0, ch0, rfl, _, _, Rh0⟩ := rdI_of_own Oh0
  clear Oh0
  go_wp2_with fail
  refine (eqI_any _ _ _ _ _ R0 _ (by exact Rh0) (by exact Rw0.below (Blw.out (by exact HL))) mw0).mono ?_
  rintro e0 w0 ⟨rfl, q, rfl⟩
  clear Rh0
  go_wp2_with fail
  refine (heldI_any _ _ m0 _ _ (by exact Ok0) mg0 (by omega) (by omega)).mono ?_
  rintro e0 w0 ⟨rfl, rfl⟩
  go_wp2
  go_ret
  exact ⟨rfl, (Blw.out (by exact HB)).trans ((Blw.out (by exact HL)).mono (Blw.out (by exact HB)).size)⟩
set_option maxHeartbeats 1600000 in
theorem lawBentPeaks_any (W : World) (x0 : Option Addr) (n0 c0 : Nat) (X0 : Nat → Nat) (hX0 : Rd W x0 n0 X0) (a1 : Nat) (_wf1 : (Lit.float .f32 a1).wf = true) :
    Calls Try.prog 6 #[.slice x0 n0 c0, .float .f32 a1] W fun e w' => e = .returned (.bool true) ∧ Below W.heap.size W w' := by
  by_cases h0 : n0 ≤ 1048576
  · skip
    obtain ⟨R0, m0, r1, hs, hi⟩ := bothBentPeaks n0 X0 h0 a1 _wf1
    exact lawBentPeaks_in W x0 n0 c0 X0 hX0 a1 _wf1 h0 R0 m0 r1 (Lib.hid hs) (Lib.hid hi)
  · have h' : (1048576 : Int) < (n0 : Int) := by omega
    go_enter Try.func6, Try.ntmps6
    go_wp2
    go_ret
    exact ⟨rfl, (Blw.refl W).out⟩
set_option maxRecDepth 100000 in
theorem FnExactBentPeaks_lifted (os : Os) (started : os.Started) (H : Type) (enc : TypeId × Value → H) :
    ReturnsInHanded {} Try.checked os 6 .any (Rows.fnExactBentPeaksSpec.pre6 enc Try.prog Try.f6 Rows.fnExactBentPeaksRow.domain false) (Rows.fnExactBentPeaksSpec.post enc Try.prog Try.f6 false true false false) := by
  refine returnsInHanded_of_change (C := Try.checked) ownKnob_none started (by kernel_rfl) Try.func6
    (ChangeSpec.witness6 (enc := enc) (C := Try.checked) false ⟨#[], #[.slice none 0 0, .float .f32 0], []⟩ 8 (by kernel_rfl) (by kernel_rfl) (by kernel_rfl) (by kernel_rfl)) ?_
  intro W base args ds gs before hval0 hW _ _
  have hval : ∀ (j : Nat) t v, Try.f6.params[j]? = some t → args[j]? = some v → Value.okWide Try.prog W .any base t v := hval0
  have hW' := hW
  obtain ⟨p, q, hA0, hV, rfl, _, _⟩ := hW
  have hA : DataW.TrodAll enc Try.prog W 0 (fun _ => true) true Try.f6.params.toList args.toList ds p := hA0
  rw [Try.params6] at hA hval
  obtain ⟨v0, v1, d0, d1, p0, p1, rfl, rfl, rfl, h0, h1⟩ := trodAll_two hA
  obtain ⟨rfl, rfl⟩ := trodVars_none hV
  obtain ⟨x0, n0, c0, rfl⟩ := okWide_slice Try.underlying22 (hval 0 22 v0 rfl rfl)
  have k0 := h0
  obtain ⟨_, _, a0, w0, _⟩ := open_f32s Try.underlying22 Try.underlying23 cellsF h0
  have b0 : ∀ x ∈ p0, x.block < W.heap.size := fun x hx => by have := hW'.lt x (by simp [hx]); simpa using this
  obtain ⟨a1, rfl, rfl, rfl, w1⟩ := open_float Try.underlying23 (hval 1 23 v1 rfl rfl) h1
  clear hA0 hval0
  refine (lawBentPeaks_any W x0 n0 c0 a0 w0 a1 w1).mono fun e W' ⟨he, hb⟩ => ?_
  subst he
  have hA2 := trodAll_mk2 (enc := enc) (w := W') (base := 0) (spare := fun b => decide (b < W.heap.size)) (held := true) (Below.trod laidOut (by kernel_rfl) (of_decide_eq_true (by kernel_rfl)) k0 hb b0) (shut_float Try.underlying23 w1)
  exact ⟨_, rfl, _, _, _, [], _, [], hW', trodAll_cons_mk (shut_bool Try.underlying4 _) trodAll_mk0, hA2, rfl, hb.frame _, fun h => by cases h⟩
theorem FnExactBentPeaks_holds : Rows.FnExactBentPeaksSaid :=
  OpenClaim.holds_of_wide 6 Try.f6 rfl rfl rfl rfl rfl rfl rfl ⟨rfl, rfl, rfl, rfl, rfl⟩ rfl rfl rfl rfl rfl (by kernel_rfl) Try.func6 (by kernel_rfl)
    (of_decide_eq_true (by kernel_rfl)) (by unfold Func.isWrapper; first | (rw [if_pos (by decide +kernel)]; kernel_rfl) | (rw [if_neg (by decide +kernel)]; exact ⟨rfl, rfl⟩))
    (fun os started H enc _ => FnExactBentPeaks_lifted os started H enc)
end Go.Proofs.Ytchpnjihhncfmaa
