/- All turns that two can make: as the program tells them; whether numbers are turns. -/
import Derived.Test.YtffhnkhjfggooaaIter
import Derived.Test.YtffhnkhjfggooaaPush
namespace Go.Proofs.Ytffhnkhjfggooaa
open Go Go.ChangeShapes Go.WideShapes Go.ChangeAt Go.RowKit Go.Shelf

attribute [local go_sem] Oper.semAt_some
/-- A list of integers that a call makes. -/
def NewI (X : Nat → Int) (n : Nat) (w : World) (e : Ending) (w' : World) : Prop := ∃ v, e = .returned v ∧ w'.ownsRow w.heap.size 2 1 v n (rowI X n) ∧ Below w.heap.size w w'
theorem newI_grown {X : Nat → Int} {n : Nat} {w w1 w' : World} {e : Ending} (hb : Below w.heap.size w w1) (h : NewI X n w1 e w') : NewI X n w e w' := by
  obtain ⟨v, he, hown, hb'⟩ := h
  refine ⟨v, he, ⟨hown.1, ?_⟩, hb.trans (hb'.mono hb.size)⟩
  rcases hown.2 with h2 | ⟨g, cap, cur, h1, h2, h3⟩
  · exact .inl h2
  · exact .inr ⟨g, cap, cur, h1, Nat.le_trans hb.size h2, h3⟩
set_option maxHeartbeats 1600000 in
theorem collectTwo_any (first last : Int) (hf0 : -100 ≤ first) (hf1 : first ≤ 100) (hl0 : -100 ≤ last) (hl1 : last ≤ 100) (hfl : -1 ≤ last - first) (Ba Bb : Nat) (w : World) (hBa : Ba < w.heap.size) (hBb : Bb < w.heap.size)
    (ca : w.cell? ⟨Ba, 0, none⟩ = some (.int .i64 first)) (cb : w.cell? ⟨Bb, 0, none⟩ = some (.int .i64 last)) :
    Calls Try.prog 79 #[.func (.func 99) #[] #[.pointer (some ⟨Ba, 0, none⟩), .pointer (some ⟨Bb, 0, none⟩)]] w (NewI (fun i => first + 2 * (i : Int)) (cntTwo first last) w) := by
  refine (callsIn_wide (n := 4)).1 ?_
  have hN : cntTwo first last ≤ 1000 := by unfold cntTwo; omega
  have hc := appendSeq_in 3 (by omega) 99 #[.pointer (some ⟨Ba, 0, none⟩), .pointer (some ⟨Bb, 0, none⟩)] (enters_of Try.func99 (by kernel_rfl) rfl) (upTwo first (cntTwo first last)) (cntTwo first last) hN _ w
    (byTwo_stops 2 (by omega) Ba Bb w.heap.size first last hf0 hf1 hl0 hl1 hfl w hBa hBb hBb ca cb)
  refine callsIn_of_wp Try.func79 rfl trivial ?_ rfl
  simp only [Try.ntmps79, List.size_toArray, List.length_cons, List.length_nil, Nat.reduceAdd, Nat.reduceSub, Array.replicate_succ, Array.replicate_zero, List.push_toArray, List.append_toArray, List.nil_append, List.cons_append]
  have hF : Fence.wide.fn 94 := trivial
  gi_wp2_with (gi_at_call 94; refine hc.mono ?_; rintro e w' ⟨v, rfl, hrow, hb⟩)
  go_ret
  rw [upTwo_length, upTwo_row] at hrow
  exact ⟨v, rfl, hrow, hb⟩
/-- The difference without its sign. -/
def gapI (a b : Int) : Int := if a > b then a - b else b - a
theorem gapI_max (a b : Int) : max (a - b) (b - a) = gapI a b := by unfold gapI; split <;> omega
theorem gapI_rng {a b : Int} (ha : 0 ≤ a) (ha' : a ≤ 40) (hb : 0 ≤ b) (hb' : b ≤ 40) : 0 ≤ gapI a b ∧ gapI a b ≤ 40 ∧ gapI a b ≤ a + b := by unfold gapI; split <;> omega
theorem totalsOf_any (a b : Int) (ha : 0 ≤ a) (ha' : a ≤ 40) (hb : 0 ≤ b) (hb' : b ≤ 40) (w : World) :
    Calls Try.prog 80 #[.int .i64 a, .int .i64 b] w fun e w' => e = .returned (.func (.func 99) #[] #[.pointer (some ⟨w.heap.size, 0, none⟩), .pointer (some ⟨w.heap.size + 1, 0, none⟩)]) ∧ w' = (w.alloc (.cells #[.int .i64 (gapI a b)] 2)).alloc (.cells #[.int .i64 (a + b)] 2) := by
  have H1 := Lib.hid (show b - a ≤ a - b → a - b = gapI a b from fun h => by unfold gapI; split <;> omega)
  have H2 := Lib.hid (show a - b < b - a → b - a = gapI a b from fun h => by unfold gapI; split <;> omega)
  go_enter Try.func80, Try.ntmps80
  go_wp2_with (first | (go_at_call 89; refine (byTwo_any _ _ _).mono ?_; rintro e w' ⟨rfl, rfl⟩))
  all_goals go_ret
  all_goals exact ⟨rfl, by first | rw [H1.out (by assumption)] | rw [H2.out (by assumption)]⟩
def tL (X : Nat → Int) (n : Nat) : Bool := (List.range n).all fun i => inB (X i) 0 6
theorem tL_no {X : Nat → Int} {n k : Nat} (hk : k < n) (h : inB (X k) 0 6 = false) : tL X n = false := by
  unfold tL
  rw [List.all_eq_false]
  exact ⟨k, List.mem_range.2 hk, by simp [h]⟩
theorem tL_yes {X : Nat → Int} {n : Nat} (h : ∀ k, k < n → inB (X k) 0 6 = true) : tL X n = true := by
  unfold tL
  rw [List.all_eq_true]
  exact fun k hk => h k (List.mem_range.1 hk)
theorem tL_at {X : Nat → Int} {n : Nat} (h : tL X n = true) : ∀ k, k < n → inB (X k) 0 6 = true := by
  unfold tL at h
  rw [List.all_eq_true] at h
  exact fun k hk => h k (List.mem_range.2 hk)
theorem areTurns1_any (x : Int) (w : World) : Calls Try.prog 83 #[.int .i64 x] w fun e w' => e = .returned (.bool (!inB x 0 6)) ∧ w = w' := by
  by_cases h0 : x < 0
  · have d0 : decide (x < 0) = true := decide_eq_true h0
    have H := Lib.hid (inB_lo (b := 6) h0)
    go_enter Try.func83, Try.ntmps83
    go_wp2
    go_ret
    exact ⟨by rw [H.out]; rfl, rfl⟩
  · have d0 : decide (x < 0) = false := decide_eq_false h0
    by_cases h1 : 6 < x
    · have d1 : decide (6 < x) = true := decide_eq_true h1
      have H := Lib.hid (inB_hi (a := 0) h1)
      go_enter Try.func83, Try.ntmps83
      go_wp2
      go_ret
      exact ⟨by rw [H.out]; rfl, rfl⟩
    · have d1 : decide (6 < x) = false := decide_eq_false h1
      have H := Lib.hid (inB_yes (show 0 ≤ x by omega) (show x ≤ 6 by omega))
      go_enter Try.func83, Try.ntmps83
      go_wp2
      go_ret
      exact ⟨by rw [H.out]; rfl, rfl⟩
/-- The index of the first number that is no turn, or -1. -/
def FirstNo (X : Nat → Int) (n : Nat) (w : World) (e : Ending) (w' : World) : Prop :=
  ∃ r : Int, e = .returned (.int .i64 r) ∧ -1 ≤ r ∧ decide (0 ≤ r) = !tL X n ∧ w = w'
set_option maxHeartbeats 800000 in
theorem indexNo_any (xa : Option Addr) (n cap : Nat) (X : Nat → Int) (w : World) (hX : RdI w xa n X) (hn : n ≤ 1048576) :
    Calls Try.prog 95 #[.slice xa n cap, .func (.func 83) #[] #[]] w (FirstNo X n w) := by
  obtain ⟨xb, xo, hxa, hcx⟩ := hX
  have HX := Lib.hid hcx
  clear hcx
  go_enter Try.func95, Try.ntmps95
  go_wp2
  go_loop [8] (fun i => ∃ k : Nat, k ≤ n ∧ i = .int .i64 k ∧ Hid (∀ j, j < k → inB (X j) 0 6 = true)) (fun i => n - (intOf i).toNat)
  case atStart => exact ⟨0, Nat.zero_le _, rfl, Lib.hid fun j hj => absurd hj (Nat.not_lt_zero _)⟩
  case round =>
    obtain ⟨k, hk, rfl, HF⟩ := hrel
    by_cases hlt : k < n
    · have e := hxa (by omega)
      subst e
      have h1 := HX.out k hlt
      cases hf : inB (X k) 0 6
      · have HN := Lib.hid (tL_no hlt hf)
        go_wp2_with (go_at_call 83; refine (areTurns1_any _ _).mono ?_; rintro e w' ⟨rfl, rfl⟩)
        go_ret
        exact ⟨k, rfl, by omega, by rw [HN.out]; simp, rfl⟩
      · have HN := Lib.hid (show ∀ j, j < k + 1 → inB (X j) 0 6 = true from fun j hj => by
          by_cases hj' : j < k
          · exact HF.out j hj'
          · rw [show j = k by omega]; exact hf)
        go_wp2_with (go_at_call 83; refine (areTurns1_any _ _).mono ?_; rintro e w' ⟨rfl, rfl⟩)
        go_round
        case rel => exact ⟨k + 1, by omega, by go_num, HN⟩
        case measure => simp [intOf]; omega
    · have hkn : k = n := by omega
      subst hkn
      have HN := Lib.hid (tL_yes HF.out)
      go_wp2
      go_ret
      exact ⟨-1, rfl, by omega, by rw [HN.out]; simp, rfl⟩
theorem areTurns_any (xa : Option Addr) (n cap : Nat) (X : Nat → Int) (w : World) (hX : RdI w xa n X) (hn : n ≤ 1048576) :
    Calls Try.prog 48 #[.slice xa n cap] w fun e w' => e = .returned (.bool (tL X n)) ∧ w = w' := by
  go_enter Try.func48, Try.ntmps48
  go_wp2_with (first | (go_at_call 95; refine (indexNo_any _ _ _ X _ hX hn).mono ?_; rintro e w' ⟨r, rfl, hr, hd, rfl⟩) | go_in)
  go_ret
  exact ⟨ret_bool (by simp_all), rfl⟩
def twoI (a b : Int) (i : Nat) : Int := if i = 0 then a else b
theorem tL_two (a b : Int) : tL (twoI a b) 2 = (inB a 0 6 && inB b 0 6) := by simp [tL, twoI, List.range_succ]
theorem rdI_two (w : World) (a b : Int) (t : TypeId) : RdI (w.alloc (.cells #[.int .i64 a, .int .i64 b] t)) (some ⟨w.heap.size, 0, none⟩) 2 (twoI a b) := by
  refine ⟨w.heap.size, 0, fun _ => rfl, fun i hi => ?_⟩
  rw [Nat.zero_add, World.cell?_alloc_new]
  rcases (by omega : i = 0 ∨ i = 1) with rfl | rfl <;> rfl
theorem tL_one (a : Int) : tL (fun _ => a) 1 = inB a 0 6 := by simp [tL, List.range_succ]
theorem rdI_one (w : World) (a : Int) (t : TypeId) : RdI (w.alloc (.cells #[.int .i64 a] t)) (some ⟨w.heap.size, 0, none⟩) 1 (fun _ => a) := by
  refine ⟨w.heap.size, 0, fun _ => rfl, fun i hi => ?_⟩
  rw [Nat.zero_add, World.cell?_alloc_new]
  obtain rfl : i = 0 := by omega
  rfl
def totR (a b : Int) (i : Nat) : Int := gapI a b + 2 * (i : Int)
def totN (a b : Int) : Nat := cntTwo (gapI a b) (a + b)
/-- What TotalsOf tells. -/
def TotRet (R : Nat → Int) (n : Nat) (ok : Bool) (w : World) (e : Ending) (w' : World) : Prop := ∃ v, e = .returned (.tuple #[v, .bool ok]) ∧ w'.ownsRow w.heap.size 2 1 v n (rowI R n) ∧ n ≤ 1048576 ∧ Below w.heap.size w w'
theorem inB_rng {n a b : Int} (h : inB n a b = true) : a ≤ n ∧ n ≤ b := by
  unfold inB at h
  simpa using h
set_option maxHeartbeats 1600000 in
theorem implTot_yes (a b : Int) (ha : inB a 0 6 = true) (hb : inB b 0 6 = true) (w : World) :
    Calls Try.prog 37 #[.int .i64 a, .int .i64 b] w (TotRet (totR a b) (totN a b) true w) := by
  obtain ⟨a0, a1⟩ := inB_rng ha
  obtain ⟨b0, b1⟩ := inB_rng hb
  obtain ⟨g0, g1, g2⟩ := gapI_rng a0 (by omega) b0 (show b ≤ 40 by omega)
  have ht : tL (twoI a b) 2 = true := by rw [tL_two, ha, hb]; rfl
  have hrd := rdI_two w a b 2
  have hN : totN a b ≤ 1048576 := by unfold totN cntTwo; omega
  have hB2 : Below w.heap.size w (((w.alloc (.cells #[.int .i64 a, .int .i64 b] 2)).alloc (.cells #[.int .i64 (gapI a b)] 2)).alloc (.cells #[.int .i64 (a + b)] 2)) := (((Below.refl _ w).alloc (Nat.le_refl _) _).alloc (by simp) _).alloc (by simp; omega) _
  go_enter Try.func37, Try.ntmps37
  go_wp2_with (first | (go_at_call 48; refine (areTurns_any _ _ _ (twoI a b) _ (by exact hrd) (by omega)).mono ?_; rintro e w' ⟨rfl, rfl⟩) | (go_at_call 80; refine (totalsOf_any a b a0 (by omega) b0 (by omega) _).mono ?_; rintro e w' ⟨rfl, rfl⟩))
  refine (collectTwo_any (gapI a b) (a + b) (by omega) (by omega) (by omega) (by omega) (by omega) _ _ _ (by simp) (by simp) ?ca ?cb).mono ?_
  case ca => rw [World.cell?_alloc_past _ _ _ (by simp), World.cell?_alloc_at _ _ _ _ (by simp)]; rfl
  case cb => rw [World.cell?_alloc_at _ _ _ _ (by simp)]; rfl
  intro e w' h
  obtain ⟨v, rfl, hown, hb⟩ := newI_grown hB2 h
  clear h hB2 hrd
  go_wp2
  go_ret2
  exact ⟨v, rfl, hown, hN, hb⟩
theorem totNo {R : Nat → Int} {w w' : World} (hb : Below w.heap.size w w') : TotRet R 0 false w (.returned (.tuple #[.slice none 0 0, .bool false])) w' := ⟨_, rfl, World.ownsRow_nil _ _ _ _, Nat.zero_le _, hb⟩
theorem implTot_no (a b : Int) (h : (inB a 0 6 && inB b 0 6) = false) (w : World) (R : Nat → Int) :
    Calls Try.prog 37 #[.int .i64 a, .int .i64 b] w (TotRet R 0 false w) := by
  have ht : tL (twoI a b) 2 = false := by rw [tL_two, h]
  have hrd := rdI_two w a b 2
  clear h
  go_enter Try.func37, Try.ntmps37
  go_wp2_with (first | (go_at_call 48; refine (areTurns_any _ _ _ (twoI a b) _ (by exact hrd) (by omega)).mono ?_; rintro e w' ⟨rfl, rfl⟩))
  go_ret2
  exact totNo ((Below.refl _ w).alloc (Nat.le_refl _) _)
def hasI (X : Nat → Int) (n : Nat) (c : Int) : Bool := (List.range n).any fun i => X i == c
theorem has_yes {X : Nat → Int} {n k : Nat} {c : Int} (hk : k < n) (h : X k = c) : hasI X n c = true := by
  unfold hasI
  rw [List.any_eq_true]
  exact ⟨k, List.mem_range.2 hk, by simp [h]⟩
theorem has_no {X : Nat → Int} {n : Nat} {c : Int} (h : ∀ k, k < n → X k ≠ c) : hasI X n c = false := by
  unfold hasI
  rw [List.any_eq_false]
  exact fun k hk => by simpa using h k (List.mem_range.1 hk)
/-- The index of the first number that is c, or -1. -/
def FirstC (X : Nat → Int) (n : Nat) (c : Int) (w : World) (e : Ending) (w' : World) : Prop :=
  ∃ r : Int, e = .returned (.int .i64 r) ∧ -1 ≤ r ∧ decide (0 ≤ r) = hasI X n c ∧ ∃ m, w' = w.drewN m
set_option maxHeartbeats 800000 in
theorem indexC_any (xa : Option Addr) (n cap : Nat) (X : Nat → Int) (c : Int) (w : World) (hX : RdI w xa n X) (hn : n ≤ 1048576) :
    Calls Try.prog 96 #[.slice xa n cap, .int .i64 c] w (FirstC X n c w) := by
  obtain ⟨xb, xo, hxa, hcx⟩ := hX
  have HX := Lib.hid hcx
  clear hcx
  go_enter Try.func96, Try.ntmps96
  go_wp2
  go_loopw [8] (fun i wr => ∃ k m : Nat, k ≤ n ∧ i = .int .i64 k ∧ wr = w.drewN m ∧ Hid (∀ j, j < k → X j ≠ c)) (fun i _ => n - (intOf i).toNat)
  case atStart => exact ⟨0, 0, Nat.zero_le _, rfl, rfl, Lib.hid fun j hj => absurd hj (Nat.not_lt_zero _)⟩
  case round =>
    obtain ⟨k, m, hk, rfl, rfl, HF⟩ := hrel
    by_cases hlt : k < n
    · have e := hxa (by omega)
      subst e
      have h1 := HX.out k hlt
      by_cases hc : X k = c
      · have HN := Lib.hid (has_yes hlt hc)
        subst hc
        have hb : (X k == X k) = true := by simp
        go_wp2
        go_ret
        exact ⟨k, rfl, by omega, by rw [HN.out]; simp, _, rfl⟩
      · have HN := Lib.hid (show ∀ j, j < k + 1 → X j ≠ c from fun j hj => by
          by_cases hj' : j < k
          · exact HF.out j hj'
          · rw [show j = k by omega]; exact hc)
        have hb : (c == X k) = false := by simpa using fun e : c = X k => hc e.symm
        clear hc
        go_wp2
        go_roundw
        case rel => exact ⟨k + 1, _, by omega, by go_num, rfl, HN⟩
        case measure => simp [intOf]; omega
    · have hkn : k = n := by omega
      subst hkn
      have HN := Lib.hid (has_no HF.out)
      go_wp2
      go_ret
      exact ⟨-1, rfl, by omega, by rw [HN.out]; simp, m, rfl⟩
theorem contains_any (xa : Option Addr) (n cap : Nat) (X : Nat → Int) (c : Int) (w : World) (hX : RdI w xa n X) (hn : n ≤ 1048576) :
    Calls Try.prog 84 #[.slice xa n cap, .int .i64 c] w fun e w' => e = .returned (.bool (hasI X n c)) ∧ ∃ m, w' = w.drewN m := by
  go_enter Try.func84, Try.ntmps84
  go_wp2_with (first | (go_at_call 96; refine (indexC_any _ _ _ X c _ hX hn).mono ?_; rintro e w' ⟨r, rfl, hr, hd, m, rfl⟩) | go_in)
  go_ret
  exact ⟨ret_bool (by simp_all), _, rfl⟩
/-- Whether two turns make a third. -/
def totB (a b c : Int) : Bool := inB c (gapI a b) (a + b) && ((a + b - c) % 2 == 0)
theorem gap_par (a b : Int) : (a + b - gapI a b) % 2 = 0 := by unfold gapI; split <;> omega
theorem has_tot {a b c : Int} : hasI (totR a b) (totN a b) c = totB a b c := by
  have hp := gap_par a b
  cases ht : totB a b c
  · refine has_no fun k hk e => ?_
    have h1 := cntTwo_lt (show k < cntTwo (gapI a b) (a + b) from hk)
    unfold totR at e
    have : totB a b c = true := by
      unfold totB
      rw [inB_yes (by omega) (by omega), beq_iff_eq.2 (show (a + b - c) % 2 = 0 by omega)]; rfl
    rw [ht] at this; cases this
  · unfold totB at ht
    rw [Bool.and_eq_true, beq_iff_eq] at ht
    obtain ⟨h1, h2⟩ := inB_rng ht.1
    have h3 := ht.2
    refine has_yes (k := ((c - gapI a b) / 2).toNat) ?_ ?_
    · unfold totN cntTwo; omega
    · unfold totR; omega
def isT (a b c : Int) : Bool := inB a 0 6 && inB b 0 6 && totB a b c
theorem isTotal_any (a b c : Int) (w : World) : Calls Try.prog 53 #[.int .i64 a, .int .i64 b, .int .i64 c] w fun e w' => e = .returned (.bool (isT a b c)) ∧ Below w.heap.size w w' := by
  cases h : (inB a 0 6 && inB b 0 6)
  · have H := Lib.hid (show isT a b c = false by unfold isT; rw [h]; rfl)
    go_enter Try.func53, Try.ntmps53
    go_wp2_with (first | (go_at_call 37; refine (implTot_no a b h _ (fun _ => 0)).mono ?_; rintro e w' ⟨v, rfl, hown, _, hb⟩))
    go_ret
    exact ⟨ret_bool H.out.symm, hb⟩
  · have H := Lib.hid (show isT a b c = hasI (totR a b) (totN a b) c by unfold isT; rw [h, has_tot]; rfl)
    rw [Bool.and_eq_true] at h
    obtain ⟨h1, h2⟩ := h
    go_enter Try.func53, Try.ntmps53
    go_wp2_with fail
    refine (implTot_yes a b h1 h2 _).mono ?_
    rintro e w' ⟨v, rfl, hown, hN, hb⟩
    obtain ⟨xa, cap, rfl, _, _, hX⟩ := rdI_of_own hown
    clear hown
    go_wp2_with (first | (go_at_call 84; refine (contains_any _ _ _ (totR a b) c _ hX hN).mono ?_; rintro e w' ⟨rfl, q, rfl⟩))
    go_ret
    exact ⟨ret_bool H.out.symm, Below.drewN hb _⟩
end Go.Proofs.Ytffhnkhjfggooaa
