
/- A list that is shifted: as the model makes it, and as the program does. -/
import Derived.Test.YtbblohjldkpcnabOat
import Derived.Test.YtbblohjldkpcnabLt5
import Derived.Test.YtbblohjldkpcnabGiv
import Derived.Test.YtbblohjldkpcnabArr
namespace Go.Proofs.Ytbblohjldkpcnab
open Go Go.ChangeShapes Go.WideShapes Go.ChangeAt Go.RowKit

def shR (X : Nat → Nat) (n : Nat) (b : Int) (j : Nat) : Nat := if 0 ≤ (j : Int) - b ∧ (j : Int) - b ≤ (n : Int) - 1 then X ((j : Int) - b).toNat else 0
def okShl (X : Nat → Nat) (n : Nat) (b : Int) : Bool := okLst X n && inB b (-128) 128
set_option maxRecDepth 100000 in
set_option maxHeartbeats 3200000 in
theorem l07Shift_any (xa : Option Addr) (n cx : Nat) (X : Nat → Nat) (b : Int) (w : World) (hX : Rd w xa n X) (hn : n ≤ 128) (hb1 : -128 ≤ b) (hb2 : b ≤ 128) :
    Calls Try.prog 78 #[.slice xa n cx, .int .i64 b] w fun e w' => ∃ v, e = .returned v ∧ w'.ownsRow w.heap.size 43 1 v n (rowOf (shR X n b) n) ∧ Below w.heap.size w w' := by
  obtain ⟨i0, hi, hz0, hz1, hz2⟩ := info_parts infoF
  obtain ⟨xb, xo, hxa, hcx⟩ := hX
  have HX := Lib.hid hcx
  clear hcx
  have hb : i0.bytes * n ≤ 281474976710656 := by rw [hz2]; omega
  have hm : n ≤ maxLen := by unfold maxLen; omega
  go_enter Try.func78, Try.ntmps78
  go_wp2_with (at_make; refine wpList_make_full _ rfl _ _ 24 rfl w.heap.size 43 i0 (.float .f32 0) 1 Try.underlying24 hi hz0 hz1 _ _ _ _ n rfl rfl rfl rfl hb hm (Nat.le_refl _) ?_)
  intro w1 hown hgr
  rw [madeF] at hown
  have hB : Below w.heap.size w w1 := (Below.refl _ w).grown hgr (Nat.le_refl _) (fun _ h => by cases h)
  clear hgr hb hm hi hz0 hz1 hz2
  go_wp2
  go_loopw [7] (fun i wr => ∃ k : Nat, k ≤ n ∧ i = .int .i64 k ∧ wr.ownsRow w.heap.size 43 1 (.slice (some ⟨w.heap.size, 0, none⟩) n n) n (rowOf (fun j => if j < k then shR X n b j else 0) n) ∧ Below w.heap.size w wr) (fun i _ => n - (intOf i).toNat)
  case atStart => exact ⟨0, Nat.zero_le _, rfl, by simpa using hown, hB⟩
  case round =>
    obtain ⟨k, hk, rfl, hownk, hBk⟩ := hrel
    clear hown hB
    by_cases hlt : k < n
    · have hlt' : (k : Int) < (n : Int) := by omega
      by_cases hin : 0 ≤ (k : Int) - b ∧ (k : Int) - b ≤ (n : Int) - 1
      · obtain ⟨i1, i2⟩ := hin
        have hI : inB ((k : Int) - b) 0 ((n : Int) - 1) = true := inB_yes i1 i2
        have e := hxa (by omega)
        subst e
        obtain ⟨j, hj⟩ : ∃ j : Nat, (k : Int) - b = (j : Int) := ⟨((k : Int) - b).toNat, by omega⟩
        have hjn : j < n := by omega
        have hI2 : inB (j : Int) 0 ((n : Int) - 1) = true := inB_yes (by omega) (by omega)
        have c0x := HX.out j hjn
        have c1x := (hBk.cell (p := ⟨xb, xo + j, none⟩) (World.block_lt_of_cell? w _ c0x)).trans c0x
        have st := own_store0 hownk hlt (X j)
        have O2 := own_stored hownk k (X j)
        rw [rowOf_congr (Y := fun i => if i < k + 1 then shR X n b i else 0) (fun i _ => by
          by_cases hik : i = k
          · subst hik
            have hs : shR X n b i = X j := by unfold shR; rw [if_pos ⟨i1, i2⟩, hj]; simp
            simp [hs]
          · rw [if_neg hik]
            by_cases hj2 : i < k
            · rw [if_pos hj2, if_pos (by omega)]
            · rw [if_neg hj2, if_neg (by omega)])] at O2
        have HO := Lib.hid O2
        have HJ := Lib.hid hj
        have HB := hBk.setCell (p := ⟨w.heap.size, k, none⟩) (Nat.le_refl _) (.float .f32 (X j))
        clear O2 hownk c0x
        go_wp2_with (go_at_call 77; refine (l00In_any _ _ _ _).mono ?_; rintro e w' ⟨rfl, rfl⟩)
        go_roundw
        case rel => exact ⟨k + 1, by omega, by go_num, HO.out, HB⟩
        case measure => simp [intOf]; omega
      · have hI : inB ((k : Int) - b) 0 ((n : Int) - 1) = false := by
          by_cases h1 : 0 ≤ (k : Int) - b
          · exact inB_hi (by omega)
          · exact inB_lo (by omega)
        have HO := Lib.hid (show wr.ownsRow w.heap.size 43 1 (.slice (some ⟨w.heap.size, 0, none⟩) n n) n (rowOf (fun j => if j < k + 1 then shR X n b j else 0) n) by
          rw [← rowOf_congr (X := fun j => if j < k then shR X n b j else 0) (Y := fun j => if j < k + 1 then shR X n b j else 0) (fun i _ => by
            by_cases hik : i = k
            · subst hik
              have hs : shR X n b i = 0 := by unfold shR; rw [if_neg hin]
              simp [hs]
            · by_cases hj2 : i < k
              · rw [if_pos hj2, if_pos (by omega)]
              · rw [if_neg hj2, if_neg (by omega)])]
          exact hownk)
        clear hownk hin
        go_wp2_with (go_at_call 77; refine (l00In_any _ _ _ _).mono ?_; rintro e w' ⟨rfl, rfl⟩)
        go_roundw
        case rel => exact ⟨k + 1, by omega, by go_num, HO.out, hBk⟩
        case measure => simp [intOf]; omega
    · have hkn : k = n := by omega
      subst hkn
      rw [rowOf_congr (Y := shR X k b) (fun j hj => by rw [if_pos hj])] at hownk
      go_wp2
      go_ret
      exact ⟨_, rfl, hownk, hBk⟩
theorem run_maxI' (P : Program) (ts : Array TypeId) (t : TypeId) (x y z : Int) (h : (if y > x then y else x) = z) (w : World) : (Builtin.max_ ts t #[.int .i64 x, .int .i64 y]).run P w = .ok (.int .i64 z) w := by rw [← h]; rfl
theorem run_minI' (P : Program) (ts : Array TypeId) (t : TypeId) (x y z : Int) (h : (if y < x then y else x) = z) (w : World) : (Builtin.min_ ts t #[.int .i64 x, .int .i64 y]).run P w = .ok (.int .i64 z) w := by rw [← h]; rfl
/-- A list with as many zeros before it, and behind it. -/
def midR (X : Nat → Nat) (n j : Nat) : Nat := if n ≤ j ∧ j < 2 * n then X (j - n) else 0
theorem copyMid_run {w0 w1 : World} {B g n M cx : Nat} {xa : Option Addr} {X : Nat → Nat} (hX : Rd w1 xa n X) (h1 : 0 < n) (hM : M = 3 * n)
    (ho : w1.ownsRow B 43 1 (.slice (some ⟨g, 0, none⟩) M M) M (rowOf (fun _ => 0) M)) (hb : Below B w0 w1) :
    ∃ w2, (Builtin.copy_ #[24, 24] 3 #[.slice (some ⟨g, n, none⟩) (M - n) (M - n), .slice xa n cx]).run Try.prog w1 = .ok (goInt n) w2 ∧
      w2.ownsRow B 43 1 (.slice (some ⟨g, 0, none⟩) M M) M (rowOf (midR X n) M) ∧ Below B w0 w2 ∧ ∀ k, k ≠ g → w2.heap[k]? = w1.heap[k]? := by
  obtain ⟨xb, xo, hxa, hcx⟩ := hX
  have e := hxa h1
  subst e
  obtain ⟨hlen, hd⟩ := ho
  rcases hd with ⟨h, _⟩ | ⟨b, cap, cur, hv, hB, hg, hn, hc, hs, ht⟩
  · cases h
  · simp only [Value.slice.injEq, Option.some.injEq, Addr.mk.injEq, true_and, and_true] at hv
    obtain ⟨rfl, rfl⟩ := hv
    rw [Nat.mul_one] at hs ht
    have hcur : cur.toList = rowOf (fun _ => 0) M := by rw [← ht, List.take_of_length_le (by simp [hs])]
    have hr := run_copy_row (P := Try.prog) w1 24 24 3 43 g n (M - n) (M - n) ⟨xb, xo, none⟩ n cx cur 43 (rowOf X n) Try.underlying24 sizeF hg
      (by rw [rowOf_length]; exact (Nat.min_eq_left (by omega : n ≤ M - n)).symm) (fun j v hj => by
        by_cases hjn : j < n
        · rw [rowOf_get _ _ _ hjn] at hj
          cases hj
          have := hcx j hjn
          by_cases h0 : j = 0
          · subst h0; simpa [Addr.add] using this
          · simpa [Addr.add, h0] using this
        · rw [List.getElem?_eq_none (by rw [rowOf_length]; omega)] at hj; cases hj) (by rw [rowOf_length, hs]; omega) (fun v hv => by obtain ⟨j, _, rfl⟩ := List.mem_map.1 hv; rfl)
    rw [rowOf_length] at hr
    have hrow : cur.toList.take n ++ rowOf X n ++ cur.toList.drop (n + n) = rowOf (midR X n) M := by
      rw [hcur]
      apply List.ext_getElem?
      intro i
      by_cases hi : i < M
      · rw [rowOf_get _ _ _ hi, List.append_assoc, List.getElem?_append]
        by_cases him : i < n
        · rw [if_pos (by simp [rowOf_length]; omega), List.getElem?_take, if_pos him, rowOf_get _ _ _ hi, midR, if_neg (by omega)]
        · rw [if_neg (by simp [rowOf_length]; omega), List.getElem?_append, List.length_take, rowOf_length, Nat.min_eq_left (by omega : n ≤ M)]
          by_cases hiq : i < n + n
          · rw [if_pos (by rw [rowOf_length]; omega), rowOf_get _ _ _ (by omega), midR, if_pos (by omega)]
          · rw [if_neg (by rw [rowOf_length]; omega), rowOf_length, List.getElem?_drop, rowOf_get _ _ _ (by omega), midR, if_neg (by omega)]
      · rw [List.getElem?_eq_none (by simp [rowOf_length]; omega), List.getElem?_eq_none (by simp [rowOf_length]; omega)]
    rw [hrow] at hr
    exact ⟨_, hr, ⟨by rw [rowOf_length, Nat.mul_one], .inr ⟨g, M, (rowOf (midR X n) M).toArray, rfl, hB, setRow_heap w1 g _ _ _ _ hg, Nat.le_refl _, hc, by simp [rowOf_length], by rw [Nat.mul_one]; exact List.take_of_length_le (by simp [rowOf_length])⟩⟩, below_setRow hb hB _, fun k hk => setRow_other w1 g k _ hk⟩
theorem own_ge' {w : World} {B e g n cap : Nat} {xs : List Value} (h : w.ownsRow B e 1 (.slice (some ⟨g, 0, none⟩) n cap) n xs) : B ≤ g := by
  rcases h.2 with ⟨h2, _⟩ | ⟨b, cap, cur, h1, h2, h3, h4⟩
  · cases h2
  · simp only [Value.slice.injEq, Option.some.injEq, Addr.mk.injEq] at h1
    rw [h1.1.1]
    exact h2
/-- What the shifting function of a list holds. -/
def ShfRet (X : Nat → Nat) (n M : Nat) (w : World) (e : Ending) (w' : World) : Prop := ∃ g b1 b2, e = .returned (.func (.func 134) #[] #[.pointer (some ⟨b1, 0, none⟩), .pointer (some ⟨b2, 0, none⟩)]) ∧ w'.cell? ⟨b1, 0, none⟩ = some (.int .i64 n) ∧ w'.cell? ⟨b2, 0, none⟩ = some (.slice (some ⟨g, 0, none⟩) M M) ∧
  w'.ownsRow w.heap.size 43 1 (.slice (some ⟨g, 0, none⟩) M M) M (rowOf (midR X n) M) ∧ Below w.heap.size w w'
set_option maxRecDepth 100000 in
set_option maxHeartbeats 3200000 in
theorem shifter_any (xa : Option Addr) (n cx M : Nat) (X : Nat → Nat) (w : World) (hX : Rd w xa n X) (h1 : 1 ≤ n) (hn : n ≤ 128) (hM : M = 3 * n) :
    Calls Try.prog 80 #[.slice xa n cx] w (ShfRet X n M w) := by
  obtain ⟨i0, hi, hz0, hz1, hz2⟩ := info_parts infoF
  have hb : i0.bytes * M ≤ 281474976710656 := by rw [hz2]; omega
  have hm : M ≤ maxLen := by unfold maxLen; omega
  have hM2 : (3 : Int) * (n : Int) = (M : Int) := by omega
  have hX1 : ∀ o, Rd (w.alloc o) xa n X := fun o => hX.below ((Below.refl _ _).alloc (Nat.le_refl _) o)
  have HM := Lib.hid hM
  clear hM
  go_enter Try.func80, Try.ntmps80
  go_wp2_with (at_make; refine wpList_make_full _ rfl _ _ 24 rfl w.heap.size 43 i0 (.float .f32 0) 1 Try.underlying24 hi hz0 hz1 _ _ _ _ M rfl rfl rfl rfl hb hm (by simp) ?_)
  intro w1 hown hgr
  rw [madeF] at hown
  have e0 : (w.alloc (.cells #[.int .i64 (n : Int)] 3)).heap.size = w.heap.size + 1 := by simp
  have hB1 : Below (w.heap.size + 1) (w.alloc (.cells #[.int .i64 (n : Int)] 3)) w1 := (Below.refl _ _).grown hgr (by simp) (fun _ h => by cases h)
  have hB : Below w.heap.size w w1 := ((Below.refl _ w).alloc (Nat.le_refl _) _).trans (hB1.mono (by omega))
  have k1 : w1.cell? ⟨w.heap.size, 0, none⟩ = some (.int .i64 n) := (cell_same (hB1.block w.heap.size (by omega)) 0).trans (by simp)
  have hl1 := own_lt hown
  have hz : w.heap.size < w1.heap.size := by omega
  have hA : Below w1.heap.size w1 (w1.alloc (.cells #[.slice (some ⟨w.heap.size + 1, 0, none⟩) M M] 24)) := (Below.refl _ _).alloc (Nat.le_refl _) _
  have o2 := own_below hown hA
  have hB2 : Below w.heap.size w (w1.alloc (.cells #[.slice (some ⟨w.heap.size + 1, 0, none⟩) M M] 24)) := hB.trans (hA.mono hB.size)
  obtain ⟨w3, hcp, o3, hB3, hJ⟩ := copyMid_run (cx := cx) (hX.below hB2) (by omega) HM.out o2 hB2
  have hc1 : w3.cell? ⟨w.heap.size, 0, none⟩ = some (.int .i64 n) := (cell_same (hJ _ (by omega)) 0).trans ((cell_same (hA.block _ hz) 0).trans k1)
  have hc2 : w3.cell? ⟨w1.heap.size, 0, none⟩ = some (.slice (some ⟨w.heap.size + 1, 0, none⟩) M M) := (cell_same (hJ _ (by omega)) 0).trans (by simp)
  have HJ := Lib.hid hJ
  clear hgr hb hm hi hz0 hz1 hz2 hX1 hJ
  go_wp2
  go_ret
  exact ⟨_, _, _, rfl, hc1, hc2, o3, hB3⟩
/-- What the program tells of a shifted list: it may lie in the middle of a block. -/
def ShlI (R : Nat → Nat) (m : Nat) (ok : Bool) (w : World) (e : Ending) (w' : World) : Prop := ∃ (v0 : Value) (Y0 : Nat → Nat), e = .returned (.tuple #[v0, .bool ok]) ∧ OwnV w' w.heap.size v0 m Y0 ∧ Like Y0 R m ∧ m ≤ 1048576 ∧ Below w.heap.size w w'
set_option maxRecDepth 100000 in
set_option maxHeartbeats 3200000 in
theorem implShl_yes (xa : Option Addr) (n cx : Nat) (X : Nat → Nat) (b : Int) (w : World) (hX : Rd w xa n X) (hk : okLst X n = true) (hb1 : -128 ≤ b) (hb2 : b ≤ 128) :
    Calls Try.prog 33 #[.slice xa n cx, .int .i64 b] w (ShlI (shR X n b) n true w) := by
  obtain ⟨_, hn1, hn2⟩ := okLst_at hk
  obtain ⟨M, hM⟩ : ∃ M, M = 3 * n := ⟨_, rfl⟩
  have HS := Lib.hid (fun w hX => implLst_any xa n cx X w hX (by omega) true (Lib.hid hk.symm))
  have HF := Lib.hid (fun w hX => shifter_any xa n cx M X w hX hn1 hn2 hM)
  obtain ⟨c, hc⟩ : ∃ c : Int, c = (if (n : Int) < (if (-(n : Int)) > b then (-(n : Int)) else b) then (n : Int) else (if (-(n : Int)) > b then (-(n : Int)) else b)) := ⟨_, rfl⟩
  obtain ⟨d, hd⟩ : ∃ d : Int, d = (if (-(n : Int)) > b then (-(n : Int)) else b) := ⟨_, rfl⟩
  rw [← hd] at hc
  have hcb : -(n : Int) ≤ c ∧ c ≤ n := by
    rw [hc, hd]; split <;> split <;> omega
  have hmax := fun ts t w => run_maxI' Try.prog ts t b (-(n : Int)) d (by rw [hd]) w
  have hmin := fun ts t w => run_minI' Try.prog ts t d (n : Int) c (by rw [hc]) w
  obtain ⟨f, hf⟩ : ∃ f : Nat, (n : Int) - c = (f : Int) := ⟨((n : Int) - c).toNat, by omega⟩
  have hf2 : f + n ≤ M := by omega
  have h3 : c = b ∨ (c = -(n : Int) ∧ b < -(n : Int)) ∨ (c = n ∧ (n : Int) < b) := by
    rw [hc, hd]; split <;> split <;> omega
  have HV := Lib.hid (show ∀ i, i < n → midR X n (f + i) = shR X n b i from fun i hi => by
    unfold midR shR
    by_cases h1 : 0 ≤ (i : Int) - b ∧ (i : Int) - b ≤ (n : Int) - 1
    · rw [if_pos h1, if_pos (by omega)]
      congr 1
      omega
    · rw [if_neg h1, if_neg (by omega)])
  have hfn : f + n - f = n := by omega
  have hfi : (f : Int) + n ≤ M := by omega
  have hdb : -128 ≤ d ∧ d ≤ 128 := by rw [hd]; split <;> omega
  have HD := Lib.hid hd
  have HCC := Lib.hid hc
  have HMM := Lib.hid hM
  clear hd hc hM hk h3
  go_enter Try.func33, Try.ntmps33
  go_wp2_with fail
  refine (HS.out _ (by exact hX)).mono ?_
  rintro e0 w1 ⟨rfl, q1, rfl⟩
  go_wp2_with fail
  refine (HF.out _ (by exact hX)).mono ?_
  rintro e0 w2 ⟨g, b1, b2, rfl, k1, k2, o2, B2⟩
  have hA : OwnAt w2 w.heap.size g f n (shR X n b) := ⟨by simpa using own_ge' o2, own_lt o2, fun i hi => ⟨by rw [own_cell o2 (show f + i < M by omega), HV.out i hi], o2.frozenAt (f + i)⟩⟩
  go_wp2_with go_in
  rw [show f + n - f = n by omega]
  go_ret2
  exact ⟨_, shR X n b, rfl, .inl ⟨g, f, n, rfl, hA⟩, fun _ _ => rfl, by omega, (Below.drewN (Below.refl _ w) q1).trans B2⟩
theorem shlNo {R : Nat → Nat} {w w' : World} (hb : Below w.heap.size w w') : ShlI R 0 false w (.returned (.tuple #[.slice none 0 0, .bool false])) w' :=
  ⟨_, fun _ => 0, rfl, .inr ⟨rfl, rfl⟩, fun _ h => absurd h (Nat.not_lt_zero _), Nat.zero_le _, hb⟩
set_option maxRecDepth 100000 in
set_option maxHeartbeats 1600000 in
theorem implShl_any (xa : Option Addr) (n cx : Nat) (X : Nat → Nat) (b : Int) (w : World) (hX : Rd w xa n X) (hn : n ≤ 1048576) (ok : Bool) (ho : Hid (ok = okShl X n b)) (m : Nat) (hm : Hid (m = if ok = true then n else 0)) :
    Calls Try.prog 33 #[.slice xa n cx, .int .i64 b] w (ShlI (shR X n b) m ok w) := by
  cases hk : okShl X n b
  · have e : ok = false := by rw [ho.out, hk]
    have e2 : m = 0 := by rw [hm.out, e]; rfl
    subst e e2
    cases hl : okLst X n
    · have HS := Lib.hid (fun w hX => implLst_any xa n cx X w hX hn false (Lib.hid hl.symm))
      clear hk hl
      go_enter Try.func33, Try.ntmps33
      go_wp2_with fail
      refine (HS.out _ (by exact hX)).mono ?_
      rintro e0 w1 ⟨rfl, q1, rfl⟩
      go_wp2
      go_ret2
      exact shlNo (Below.drewN (Below.refl _ w) q1)
    · have HS := Lib.hid (fun w hX => implLst_any xa n cx X w hX hn true (Lib.hid hl.symm))
      have hin : inB b (-128) 128 = false := by rw [okShl, hl, Bool.true_and] at hk; exact hk
      by_cases h1 : b < -128
      · have d1 : decide (b < -128) = true := decide_eq_true h1
        clear hk hl hin
        go_enter Try.func33, Try.ntmps33
        go_wp2_with fail
        refine (HS.out _ (by exact hX)).mono ?_
        rintro e0 w1 ⟨rfl, q1, rfl⟩
        go_wp2
        go_ret2
        exact shlNo (Below.drewN (Below.refl _ w) q1)
      · have h2 : 128 < b := by
          by_cases h2 : 128 < b
          · exact h2
          · rw [inB_yes (by omega) (by omega)] at hin; cases hin
        have d1 : decide (b < -128) = false := decide_eq_false h1
        have d2 : decide (128 < b) = true := decide_eq_true h2
        clear hk hl hin
        go_enter Try.func33, Try.ntmps33
        go_wp2_with fail
        refine (HS.out _ (by exact hX)).mono ?_
        rintro e0 w1 ⟨rfl, q1, rfl⟩
        go_wp2
        go_ret2
        exact shlNo (Below.drewN (Below.refl _ w) q1)
  · have e : ok = true := by rw [ho.out, hk]
    have e2 : m = n := by rw [hm.out, e]; rfl
    subst e e2
    rw [okShl, Bool.and_eq_true] at hk
    have := inB_rng hk.2
    exact implShl_yes xa m cx X b w hX hk.1 this.1 this.2
set_option maxRecDepth 100000 in
set_option maxHeartbeats 1600000 in
theorem specShl_any (xa : Option Addr) (n cx : Nat) (X : Nat → Nat) (b : Int) (w : World) (hX : Rd w xa n X) (hn : n ≤ 1048576) (ok : Bool) (ho : Hid (ok = okShl X n b)) (m : Nat) (hm : Hid (m = if ok = true then n else 0)) :
    Calls Try.prog 32 #[.slice xa n cx, .int .i64 b] w (LstRet (shR X n b) m ok w) := by
  cases hk : okShl X n b
  · have e : ok = false := by rw [ho.out, hk]
    have e2 : m = 0 := by rw [hm.out, e]; rfl
    subst e e2
    cases hl : okLst X n
    · have HS := Lib.hid (fun w hX => specLst_any xa n cx X w hX hn false (Lib.hid hl.symm))
      clear hk hl
      go_enter Try.func32, Try.ntmps32
      go_wp2_with fail
      refine (HS.out _ (by exact hX)).mono ?_
      rintro e0 w1 ⟨rfl, q1, rfl⟩
      go_wp2
      go_ret2
      exact lstNo (Below.drewN (Below.refl _ w) q1)
    · have HS := Lib.hid (fun w hX => specLst_any xa n cx X w hX hn true (Lib.hid hl.symm))
      have hin : inB b (-128) 128 = false := by rw [okShl, hl, Bool.true_and] at hk; exact hk
      clear hk hl
      go_enter Try.func32, Try.ntmps32
      go_wp2_with fail
      refine (HS.out _ (by exact hX)).mono ?_
      rintro e0 w1 ⟨rfl, q1, rfl⟩
      go_wp2_with (go_at_call 77; refine (l00In_any _ _ _ _).mono ?_; rintro e w' ⟨rfl, rfl⟩)
      go_ret2
      exact lstNo (Below.drewN (Below.refl _ w) q1)
  · have e : ok = true := by rw [ho.out, hk]
    have e2 : m = n := by rw [hm.out, e]; rfl
    subst e e2
    rw [okShl, Bool.and_eq_true] at hk
    obtain ⟨hl, hin⟩ := hk
    have hr := inB_rng hin
    have h128 := (okLst_at hl).2.2
    have HS := Lib.hid (fun w hX => specLst_any xa m cx X w hX hn true (Lib.hid hl.symm))
    have HT := Lib.hid (fun w hX => l07Shift_any xa m cx X b w hX h128 hr.1 hr.2)
    clear hl
    go_enter Try.func32, Try.ntmps32
    go_wp2_with fail
    refine (HS.out _ (by exact hX)).mono ?_
    rintro e0 w1 ⟨rfl, q1, rfl⟩
    go_wp2_with (first | (go_at_call 77; refine (l00In_any _ _ _ _).mono ?_; rintro e w' ⟨rfl, rfl⟩) | fail)
    refine (HT.out _ (by exact hX)).mono ?_
    rintro e0 w2 ⟨v, rfl, o2, B2⟩
    go_wp2
    go_ret2
    exact ⟨_, _, rfl, o2, fun _ _ => rfl, hn, (Below.drewN (Below.refl _ w) q1).trans B2⟩
end Go.Proofs.Ytbblohjldkpcnab
