
import Derived.Test.YtbblohjldkpcnabMxm
import Derived.Test.YtbblohjldkpcnabMg6
import Derived.Test.YtbblohjldkpcnabMg7
namespace Go.Proofs.Ytbblohjldkpcnab
open Go Go.ChangeShapes Go.WideShapes Go.ChangeAt Go.RowKit
/- Which number of some is the least, and comes first: 32-bit numbers. -/
open Go Go.RowKit

/-- Two finite numbers stand to one another as their keys. -/
theorem ord_key {x y : Nat} (hx : x < 4294967296) (hy : y < 4294967296) (fx : isFin .f32 x = true) (fy : isFin .f32 y = true) : FloatKind.f32.format.order x y = some (compare (keyW x) (keyW y)) := by
  obtain ⟨s, a, ha, rfl⟩ := fin_word hx fx
  obtain ⟨t, b, hb, rfl⟩ := fin_word hy fy
  rw [key_word s a (by omega), key_word t b (by omega)]
  exact ord_words s t a b ha hb
theorem lt_key {x y : Nat} (hx : x < 4294967296) (hy : y < 4294967296) (fx : isFin .f32 x = true) (fy : isFin .f32 y = true) : (FloatKind.f32.format.order x y == some .lt) = decide (keyW x < keyW y) := by
  rw [ord_key hx hy fx fy]
  by_cases h : keyW x < keyW y
  · rw [Int.compare_eq_lt.2 h, decide_eq_true h]; rfl
  · rw [decide_eq_false h]
    rcases (by omega : keyW x = keyW y ∨ keyW y < keyW x) with h1 | h1
    · rw [Int.compare_eq_eq.2 h1]; rfl
    · rw [Int.compare_eq_gt.2 h1]; rfl
theorem eq_key {x y : Nat} (hx : x < 4294967296) (hy : y < 4294967296) (fx : isFin .f32 x = true) (fy : isFin .f32 y = true) : (FloatKind.f32.format.order x y == some .eq) = decide (keyW x = keyW y) := by
  rw [ord_key hx hy fx fy]
  by_cases h : keyW x = keyW y
  · rw [Int.compare_eq_eq.2 h, decide_eq_true h]; rfl
  · rw [decide_eq_false h]
    rcases (by omega : keyW x < keyW y ∨ keyW y < keyW x) with h1 | h1
    · rw [Int.compare_eq_lt.2 h1]; rfl
    · rw [Int.compare_eq_gt.2 h1]; rfl
/-- The first of the least ones. -/
def minI (L : Nat → Nat) : Nat → Nat
  | 0 => 0
  | k + 1 => if keyW (L k) < keyW (L (minI L k)) then k else minI L k
theorem minI_lt (L : Nat → Nat) : ∀ k, 0 < k → minI L k < k
  | 0, h => absurd h (Nat.lt_irrefl _)
  | k + 1, _ => by
    unfold minI
    split
    · omega
    · by_cases h : 0 < k
      · have := minI_lt L k h; omega
      · have : k = 0 := by omega
        subst this
        show 0 < 1
        omega
theorem minI_le (L : Nat → Nat) : ∀ k i, i < k → keyW (L (minI L k)) ≤ keyW (L i)
  | 0, _, h => absurd h (Nat.not_lt_zero _)
  | k + 1, i, h => by
    unfold minI
    by_cases hi : i = k
    · subst hi
      split
      · exact Int.le_refl _
      · omega
    · have := minI_le L k i (by omega)
      split
      · omega
      · exact this
theorem minI_first (L : Nat → Nat) : ∀ k i, i < minI L k → keyW (L (minI L k)) < keyW (L i)
  | 0, _, h => absurd h (Nat.not_lt_zero _)
  | k + 1, i, h => by
    unfold minI at h ⊢
    split
    · rename_i hlt
      rw [if_pos hlt] at h
      have := minI_le L k i h
      omega
    · rename_i hlt
      rw [if_neg hlt] at h
      exact minI_first L k i h
theorem prod_comm (x y : Ieee.Datum) : Ieee.Datum.product x y = Ieee.Datum.product y x := by
  cases x <;> cases y <;> simp [Ieee.Datum.product, Bool.xor_comm, Nat.mul_comm, Int.add_comm]
theorem mul_comm32 (x y : Nat) : fbin .mul .f32 x y = fbin .mul .f32 y x := by
  show ((Ieee.Datum.product (FloatKind.f32.format.read x) (FloatKind.f32.format.read y)).map FloatKind.f32.format.write).getD _ = ((Ieee.Datum.product (FloatKind.f32.format.read y) (FloatKind.f32.format.read x)).map FloatKind.f32.format.write).getD _
  rw [prod_comm]
theorem dotW_comm (X Y : Nat → Nat) : ∀ n, dotW X Y n = dotW Y X n
  | 0 => rfl
  | n + 1 => by
    show fbin .add .f32 (dotW X Y n) (fbin .mul .f32 (X n) (Y n)) = fbin .add .f32 (dotW Y X n) (fbin .mul .f32 (Y n) (X n))
    rw [dotW_comm X Y n, mul_comm32 (X n)]
theorem lkD_comm (X Y : Nat → Nat) (n : Nat) : lkD X Y n = lkD Y X n := dotW_comm _ _ n
/-- A list that is like a finite one is that one. -/
theorem like_fin {Z R : Nat → Nat} {n : Nat} (h : Like Z R n) (hf : finL R n = true) {j : Nat} (hj : j < n) : Z j = R j := by
  have h1 := h j hj
  have h2 := fin_nan (finL_at hf j hj)
  rw [canon_num h2] at h1
  cases h3 : isNaN .f32 (Z j)
  · rwa [canon_num h3] at h1
  · rw [canon_nan h3] at h1
    rw [← h1, isNaN_qnan] at h2
    cases h2
theorem lkD_lt (X Y : Nat → Nat) (n : Nat) : lkD X Y n < 4294967296 := by
  cases n with
  | zero => show (0 : Nat) < 4294967296; omega
  | succ n => exact fbin_lt _ _ _

/- The spectrum that is least like the mean: as the model finds it, and as the program does. -/

set_option maxRecDepth 100000 in
set_option maxHeartbeats 1600000 in
theorem idxF_any (xa : Option Addr) (n cx : Nat) (X : Nat → Nat) (v r : Nat) (w : World) (hX : Rd w xa n X) (hn : n ≤ 1048576) (hr : r < n) (he : (FloatKind.f32.format.order v (X r) == some .eq) = true) (hf : ∀ i, i < r → (FloatKind.f32.format.order v (X i) == some .eq) = false) :
    Calls Try.prog 69 #[.slice xa n cx, .float .f32 v] w fun e w' => e = .returned (.int .i64 r) ∧ w' = w := by
  obtain ⟨xb, xo, hxa, hcx⟩ := hX
  have e := hxa (by omega)
  subst e
  have HX := Lib.hid hcx
  have HF := Lib.hid hf
  have HE := Lib.hid he
  clear hcx hxa hf he
  go_enter Try.func69, Try.ntmps69
  go_wp2
  go_loopw [8] (fun i wr => ∃ k : Nat, k ≤ r ∧ i = .int .i64 k ∧ wr = w) (fun i _ => n - (intOf i).toNat)
  case atStart => exact ⟨0, Nat.zero_le _, rfl, rfl⟩
  case round =>
    obtain ⟨k, hk, rfl, rfl⟩ := hrel
    have hlt : k < n := by omega
    have c1 := HX.out k hlt
    by_cases hkr : k < r
    · have ht := HF.out k hkr
      go_wp2
      go_roundw
      case rel => exact ⟨k + 1, by omega, by go_num, by first | rfl | trivial⟩
      case measure => simp [intOf]; omega
    · have hkk : k = r := by omega
      subst hkk
      have ht := HE.out
      go_wp2
      go_ret
      exact ⟨rfl, rfl⟩
def allN (K n : Nat) (X : Nat → Nat → Nat) : Bool := (List.range K).all fun i => nrmB (X i) n
theorem allN_no {K n k : Nat} {X : Nat → Nat → Nat} (hk : k < K) (h : nrmB (X k) n = false) : allN K n X = false := by
  unfold allN
  rw [List.all_eq_false]
  exact ⟨k, List.mem_range.2 hk, by simp [h]⟩
theorem allN_yes {K n : Nat} {X : Nat → Nat → Nat} (h : ∀ k, k < K → nrmB (X k) n = true) : allN K n X = true := by
  unfold allN
  rw [List.all_eq_true]
  exact fun k hk => h k (List.mem_range.1 hk)
def likR (M : Nat → Nat) (X : Nat → Nat → Nat) (n i : Nat) : Nat := lkD M (X i) n
theorem rd_eq {w : World} {x : Option Addr} {n : Nat} {Y M : Nat → Nat} (h : Rd w x n Y) (e : ∀ j, j < n → Y j = M j) : Rd w x n M := by
  obtain ⟨b, o, h1, h2⟩ := h
  exact ⟨b, o, h1, fun i hi => by rw [← e i hi]; exact h2 i hi⟩
theorem likR_fin {M : Nat → Nat} {X : Nat → Nat → Nat} {K n k : Nat} {N : Nat → Nat} (hk : okSpc K N X = true) (hn : n = N 0) (hM : okLst M n = true) (pm : nrmB M n = true) (hkK : k < K) (pk : nrmB (X k) n = true) : isFin .f32 (likR M X n k) = true := by
  obtain ⟨_, _, hall⟩ := okSpc_at hk
  obtain ⟨h1, h2⟩ := hall k hkK
  exact lkD_fin hM (by rw [hn, ← h2]; exact h1) pm pk
set_option maxRecDepth 100000 in
set_option maxHeartbeats 3200000 in
theorem likesOf_any (xm : Option Addr) (n cm : Nat) (M : Nat → Nat) (xa : Option Addr) (K cap : Nat) (N : Nat → Nat) (X : Nat → Nat → Nat) (w : World) (hM : Rd w xm n M) (hX : RdR w xa K N X) (hk : okSpc K N X = true) (hn : n = N 0) (hfM : okLst M n = true)
    (ok : Bool) (ho : Hid (ok = (nrmB M n && allN K n X))) (m : Nat) (hm : Hid (m = if ok = true then K else 0)) :
    Calls Try.prog 68 #[.slice xm n cm, .slice xa K cap] w (LstRet (likR M X n) m ok w) := by
  obtain ⟨i0, hi, hz0, hz1, hz2⟩ := info_parts infoF
  obtain ⟨hK1, hK8, hall⟩ := okSpc_at hk
  have HA := Lib.hid hall
  have hn128 := (okLst_at hfM).2
  have hb : i0.bytes * K ≤ 281474976710656 := by rw [hz2]; omega
  have hmx : K ≤ maxLen := by unfold maxLen; omega
  have HNO := Lib.hid (fun (h : ok = false) w' (hb : Below w.heap.size w w') => show LstRet (likR M X n) m ok w (.returned (.tuple #[.slice none 0 0, .bool false])) w' by
    rw [hm.out, h, if_neg (by simp)]; exact lstNo hb)
  have HT := Lib.hid (fun (k : Nat) (hkK : k < K) (a : Option Addr) (c : Nat) w' (h1 : Rd w' xm n M) (h2 : Rd w' a n (X k)) => show Calls Try.prog 130 #[.slice xm n cm, .slice a n c] w' (FlbRet (if (nrmB M n && nrmB (X k) n) = true then likR M X n k else 0) (nrmB M n && nrmB (X k) n) w') from by
    have e : okTwo M n (X k) n = true := by
      obtain ⟨g1, g2⟩ := hall k hkK
      have : okLst (X k) n = true := by rw [hn, ← g2]; exact g1
      rw [okTwo, hfM, this, decide_eq_true rfl]; rfl
    exact implLik_any xm n cm M a n c (X k) w' h1 h2 (by omega) (by omega) _ (Lib.hid (by rw [e, Bool.true_and])) _ (Lib.hid rfl))
  have HFI := Lib.hid (fun (k : Nat) (hkK : k < K) (h : (nrmB M n && nrmB (X k) n) = true) => show isNaN .f32 (likR M X n k) = false from by
    rw [Bool.and_eq_true] at h
    exact fin_nan (likR_fin hk hn hfM h.1 hkK h.2))
  have HOK := Lib.hid (show (∀ j, j < K → (nrmB M n && nrmB (X j) n) = true) → ok = true from fun h => by
    have h0 := h 0 (by omega)
    rw [Bool.and_eq_true] at h0
    rw [ho.out, h0.1, allN_yes (fun j hj => by have := h j hj; rw [Bool.and_eq_true] at this; exact this.2)]; rfl)
  have HBD := Lib.hid (show ∀ k, k < K → (nrmB M n && nrmB (X k) n) = false → ok = false from fun k hkK h => by
    rw [ho.out]
    cases hp : nrmB M n
    · rfl
    · rw [hp, Bool.true_and] at h; rw [allN_no hkK h]; rfl)
  have HX := Lib.hid (show ∀ w', Below w.heap.size w w' → ∀ k, k < K → ∃ (b o : Nat) (c : Option Addr × Nat), w'.cell? ⟨b, o + k, none⟩ = some (.slice c.1 n c.2) ∧ xa = some ⟨b, o, none⟩ ∧ Rd w' c.1 n (X k) from fun w' hb k hkK => by
    obtain ⟨xb, xo, hxa, h2⟩ := RdR.below hX hb
    have e := hxa (by omega)
    obtain ⟨a, c, h1, _, h3⟩ := h2 k hkK
    rw [(HA.out k hkK).2, ← hn] at h1 h3
    exact ⟨xb, xo, (a, c), h1, e, h3⟩)
  obtain ⟨xb, xo, hxa, _⟩ := hX
  have e := hxa (by omega)
  subst e
  clear hxa hall hk hfM hn
  go_enter Try.func68, Try.ntmps68
  go_wp2_with (at_make; refine wpList_make_full _ rfl _ _ 24 rfl w.heap.size 43 i0 (.float .f32 0) 1 Try.underlying24 hi hz0 hz1 _ _ _ _ K rfl rfl rfl rfl hb hmx (Nat.le_refl _) ?_)
  intro w1 hown hgr
  rw [madeF] at hown
  have hB : Below w.heap.size w w1 := (Below.refl _ w).grown hgr (Nat.le_refl _) (fun _ h => by cases h)
  clear hgr hb hmx hi hz0 hz1 hz2
  go_wp2
  go_loopw [16] (fun i wr => ∃ (k : Nat) (Z : Nat → Nat), k ≤ K ∧ i = .int .i64 k ∧ wr.ownsRow w.heap.size 43 1 (.slice (some ⟨w.heap.size, 0, none⟩) K K) K (rowOf Z K) ∧ Hid (∀ j, j < k → Z j = likR M X n j ∧ (nrmB M n && nrmB (X j) n) = true) ∧ Below w.heap.size w wr) (fun i _ => K - (intOf i).toNat)
  case atStart => exact ⟨0, fun _ => 0, Nat.zero_le _, rfl, hown, Lib.hid fun _ h => absurd h (Nat.not_lt_zero _), hB⟩
  case round =>
    obtain ⟨k, Z, hkk, rfl, hownk, HL, hBk⟩ := hrel
    clear hown hB
    by_cases hlt : k < K
    · obtain ⟨b, o, ⟨a, c⟩, h1, h2, h3⟩ := HX.out wr hBk k hlt
      simp only [Option.some.injEq, Addr.mk.injEq, and_true] at h2
      obtain ⟨rfl, rfl⟩ := h2
      have hlt' : (k : Int) < (K : Int) := by omega
      have HO := Lib.hid hownk
      clear hownk
      go_wp2_with fail
      refine (HT.out k hlt a c _ (by exact hM.below hBk) (by exact h3)).mono ?_
      rintro e0 w2 ⟨s, rfl, B2⟩
      have hB2 := hBk.trans (B2.mono hBk.size)
      cases hb : (nrmB M n && nrmB (X k) n)
      · have hoF := HBD.out k hlt hb
        have HN := Lib.hid (HNO.out hoF _ hB2)
        rw [if_neg (by simp)]
        clear hoF
        go_wp2
        go_ret2
        exact HN.out
      · rw [if_pos rfl, pick_num (HFI.out k hlt hb)]
        have O2 := own_below HO.out B2
        have st := own_store0 O2 hlt (likR M X n k)
        have O3 := own_stored O2 k (likR M X n k)
        have HN := Lib.hid (show ∀ j, j < k + 1 → (fun j => if j = k then likR M X n k else Z j) j = likR M X n j ∧ (nrmB M n && nrmB (X j) n) = true from fun j hj => by
          by_cases hjk : j = k
          · subst hjk; exact ⟨if_pos rfl, hb⟩
          · obtain ⟨g1, g2⟩ := HL.out j (by omega)
            exact ⟨by show (if j = k then _ else _) = _; rw [if_neg hjk]; exact g1, g2⟩)
        have HO3 := Lib.hid O3
        have hB3 := hB2.setCell (p := ⟨w.heap.size, k, none⟩) (Nat.le_refl _) (.float .f32 (likR M X n k))
        clear O2 O3 hb
        go_wp2
        go_roundw
        case rel => exact ⟨k + 1, _, by omega, by go_num, HO3.out, HN, hB3⟩
        case measure => simp [intOf]; omega
    · have hkn : k = K := by omega
      subst hkn
      have hoT := HOK.out fun j hj => (HL.out j hj).2
      have HF := Lib.hid (show LstRet (likR M X n) m ok w (.returned (.tuple #[.slice (some ⟨w.heap.size, 0, none⟩) k k, .bool true])) wr by
        rw [hm.out, hoT, if_pos rfl]
        exact lstYes (fun j hj => by rw [(HL.out j hj).1]) hownk (by omega) hBk)
      clear hoT hownk
      go_wp2
      go_ret2
      exact HF.out

/- The spectrum that is least like the mean, told: as the model does, and as the program does. -/

def okOdd (K : Nat) (N : Nat → Nat) (X : Nat → Nat → Nat) : Bool := okMen K N X && (nrmB (menR X K) (N 0) && allN K (N 0) X)
def OddRet (r : Int) (ok : Bool) (w : World) (e : Ending) (w' : World) : Prop := e = .returned (.tuple #[.int .i64 r, .bool ok]) ∧ Below w.heap.size w w'
theorem men_at {K : Nat} {N : Nat → Nat} {X : Nat → Nat → Nat} (h : okMen K N X = true) : okSpc K N X = true ∧ finL (menR X K) (N 0) = true ∧ okLst (menR X K) (N 0) = true := by
  unfold okMen at h
  rw [Bool.and_eq_true] at h
  obtain ⟨h1, h2⟩ := h
  obtain ⟨_, _, hall⟩ := okSpc_at h1
  have := (okLst_at (hall 0 (by omega)).1).2
  exact ⟨h1, h2, by rw [okLst, h2, inB_yes (by omega) (by omega)]; rfl⟩
set_option maxRecDepth 100000 in
set_option maxHeartbeats 3200000 in
theorem implOdd_any (xa : Option Addr) (K cap : Nat) (N : Nat → Nat) (X : Nat → Nat → Nat) (w : World) (hX : RdR w xa K N X) (h : K + totN N K ≤ 1048576) (ok : Bool) (ho : Hid (ok = okOdd K N X)) (R : Int) (hR : Hid (R = if ok = true then (minI (likR (menR X K) X (N 0)) K : Int) else 0)) :
    Calls Try.prog 25 #[.slice xa K cap] w (OddRet R ok w) := by
  obtain ⟨okm, hokm⟩ : ∃ b, b = okMen K N X := ⟨_, rfl⟩
  have HM := Lib.hid (fun w hX => implMen_any xa K cap N X w hX h okm (Lib.hid hokm) _ (Lib.hid rfl))
  have HN := Lib.hid (fun (e : ok = false) w' (hb : Below w.heap.size w w') => show OddRet R ok w (.returned (.tuple #[.int .i64 0, .bool false])) w' by
    rw [hR.out, e, if_neg (by simp)]; exact ⟨rfl, hb⟩)
  cases okm
  · have HF := Lib.hid (HN.out (by rw [ho.out, okOdd, ← hokm]; rfl))
    clear hokm
    go_enter Try.func25, Try.ntmps25
    go_wp2_with fail
    refine (HM.out _ (by exact hX)).mono ?_
    rintro e0 w1 ⟨v0, Y0, rfl, O0, L0, hmm, B1⟩
    go_wp2
    go_ret2
    exact HF.out _ B1
  · obtain ⟨hk, hfM, hoM⟩ := men_at hokm.symm
    obtain ⟨n, hn⟩ : ∃ n, n = N 0 := ⟨_, rfl⟩
    obtain ⟨M, hM⟩ : ∃ M, M = menR X K := ⟨_, rfl⟩
    obtain ⟨hK1, hK8, _⟩ := okSpc_at hk
    rw [← hM, ← hn] at hfM hoM
    rw [if_pos rfl, ← hM, ← hn] at HM
    obtain ⟨ok2, hok2⟩ : ∃ b, b = (nrmB M n && allN K n X) := ⟨_, rfl⟩
    have HL := Lib.hid (fun (xm : Option Addr) cm w hM hX => likesOf_any xm n cm M xa K cap N X w hM hX hk hn hoM ok2 (Lib.hid hok2) _ (Lib.hid rfl))
    have HY := Lib.hid (show ∀ Y0 : Nat → Nat, Like Y0 M n → ∀ j, j < n → Y0 j = M j from fun Y0 hl j hj => like_fin hl hfM hj)
    have hoo : ok = ok2 := by rw [ho.out, okOdd, ← hokm, Bool.true_and, ← hM, ← hn, ← hok2]
    cases ok2
    · have HF := Lib.hid (HN.out hoo)
      clear hokm hk hfM hoM hM hn hok2 hoo
      go_enter Try.func25, Try.ntmps25
      go_wp2_with fail
      refine (HM.out _ (by exact hX)).mono ?_
      rintro e0 w1 ⟨v0, Y0, rfl, O0, L0, hmm, B1⟩
      obtain ⟨x0, c0, rfl, _, _, R0⟩ := rd_of_own O0
      have R1 := rd_eq R0 (HY.out _ L0)
      go_wp2_with fail
      refine (HL.out _ _ _ (by exact R1) (by exact hX.below B1)).mono ?_
      rintro e0 w2 ⟨v1, Y1, rfl, O1, L1, hm2, B2⟩
      have B3 := B1.trans (B2.mono B1.size)
      go_wp2
      go_ret2
      exact HF.out _ B3
    · rw [eq_comm, Bool.and_eq_true] at hok2
      obtain ⟨hp, hq⟩ := hok2
      have hall : ∀ k, k < K → nrmB (X k) n = true := fun k hkK => by
        cases hb : nrmB (X k) n
        · rw [allN_no hkK hb] at hq; cases hq
        · rfl
      obtain ⟨L, hL⟩ : ∃ L, L = likR M X n := ⟨_, rfl⟩
      have hfin : ∀ k, k < K → isFin .f32 (L k) = true := fun k hkK => by rw [hL]; exact likR_fin hk hn hoM hp hkK (hall k hkK)
      have hlt : ∀ k, k < K → L k < 4294967296 := fun k _ => by rw [hL]; exact lkD_lt _ _ _
      rw [if_pos rfl, ← hL] at HL
      have HY1 := Lib.hid (show ∀ Y1 : Nat → Nat, Like Y1 L K → ∀ j, j < K → Y1 j = L j from fun Y1 hl j hj => like_fin hl (finL_yes hfin) hj)
      have HMN := Lib.hid (fun (x1 : Option Addr) c1 w hX => slicesMin_any x1 K c1 L w hX hK1 (by omega) hlt hfin)
      have hr := minI_lt L K (by omega)
      have HIX := Lib.hid (fun (x1 : Option Addr) c1 j (hj : j < K) (hmin : ∀ i, i < K → keyW (L j) ≤ keyW (L i)) w hX => idxF_any x1 K c1 L (L j) (minI L K) w hX (by omega) hr
        (by rw [eq_key (hlt j hj) (hlt _ hr) (hfin j hj) (hfin _ hr), decide_eq_true]; have := hmin _ hr; have := minI_le L K j hj; omega)
        (fun i hi => by
          have hiK : i < K := by omega
          rw [eq_key (hlt j hj) (hlt i hiK) (hfin j hj) (hfin i hiK), decide_eq_false]
          have := minI_first L K i hi; have := hmin _ hr; have := minI_le L K j hj; omega))
      have HF := Lib.hid (show ∀ w', Below w.heap.size w w' → OddRet R ok w (.returned (.tuple #[.int .i64 (minI L K : Int), .bool true])) w' from fun w' hb => by
        rw [hR.out, hoo, if_pos rfl, ← hM, ← hn, ← hL]; exact ⟨rfl, hb⟩)
      clear hokm hk hfM hoM hM hn hoo hp hq hall hfin hlt hL hr ho hR HN
      go_enter Try.func25, Try.ntmps25
      go_wp2_with fail
      refine (HM.out _ (by exact hX)).mono ?_
      rintro e0 w1 ⟨v0, Y0, rfl, O0, L0, hmm, B1⟩
      obtain ⟨x0, c0, rfl, _, _, R0⟩ := rd_of_own O0
      have R1 := rd_eq R0 (HY.out _ L0)
      clear O0 L0 R0
      go_wp2_with fail
      refine (HL.out _ _ _ (by exact R1) (by exact hX.below B1)).mono ?_
      rintro e0 w2 ⟨v1, Y1, rfl, O1, L1, hm2, B2⟩
      have B3 := B1.trans (B2.mono B1.size)
      obtain ⟨x1, c1, rfl, _, _, R2⟩ := rd_of_own O1
      have R3 := rd_eq R2 (HY1.out _ L1)
      clear O1 L1 R2
      go_wp2_with fail
      refine (HMN.out _ _ _ (by exact R3)).mono ?_
      rintro e0 w3 ⟨j, hj, rfl, hmin, hw⟩
      rw [hw]
      clear hw
      have HJ := Lib.hid (HIX.out x1 c1 j hj hmin)
      clear hmin
      go_wp2_with fail
      refine (HJ.out _ (by exact R3)).mono ?_
      rintro e0 w4 ⟨rfl, hw⟩
      rw [hw]
      clear hw
      go_wp2
      go_ret2
      exact HF.out _ B3

/- The spectrum that is least like the mean, told as the model does. -/

/-- The least number among the first k. -/
def leastW (L : Nat → Nat) (k : Nat) : Nat := if k = 0 then 0 else L (minI L k)
set_option maxRecDepth 100000 in
set_option maxHeartbeats 3200000 in
theorem specOdd_any (xa : Option Addr) (K cap : Nat) (N : Nat → Nat) (X : Nat → Nat → Nat) (w : World) (hX : RdR w xa K N X) (h : K + totN N K ≤ 1048576) (ok : Bool) (ho : Hid (ok = okOdd K N X)) (R : Int) (hR : Hid (R = if ok = true then (minI (likR (menR X K) X (N 0)) K : Int) else 0)) :
    Calls Try.prog 24 #[.slice xa K cap] w (OddRet R ok w) := by
  obtain ⟨okm, hokm⟩ : ∃ b, b = okMen K N X := ⟨_, rfl⟩
  have HM := Lib.hid (fun w hX => specMen_any xa K cap N X w hX h okm (Lib.hid hokm) _ (Lib.hid rfl))
  have HN := Lib.hid (fun (e : ok = false) w' (hb : Below w.heap.size w w') => show OddRet R ok w (.returned (.tuple #[.int .i64 0, .bool false])) w' by
    rw [hR.out, e, if_neg (by simp)]; exact ⟨rfl, hb⟩)
  cases okm
  · have HF := Lib.hid (HN.out (by rw [ho.out, okOdd, ← hokm]; rfl))
    clear hokm
    go_enter Try.func24, Try.ntmps24
    go_wp2_with fail
    refine (HM.out _ (by exact hX)).mono ?_
    rintro e0 w1 ⟨v0, Y0, rfl, O0, L0, hmm, B1⟩
    go_wp2
    go_ret2
    exact HF.out _ B1
  · obtain ⟨hk, hfM, hoM⟩ := men_at hokm.symm
    obtain ⟨n, hn⟩ : ∃ n, n = N 0 := ⟨_, rfl⟩
    obtain ⟨M, hM⟩ : ∃ M, M = menR X K := ⟨_, rfl⟩
    obtain ⟨hK1, hK8, hall⟩ := okSpc_at hk
    rw [← hM, ← hn] at hfM hoM
    rw [if_pos rfl, ← hM, ← hn] at HM
    have HA := Lib.hid hall
    have HY := Lib.hid (show ∀ Y0 : Nat → Nat, Like Y0 M n → ∀ j, j < n → Y0 j = M j from fun Y0 hl j hj => like_fin hl hfM hj)
    have hoo : ok = (nrmB M n && allN K n X) := by rw [ho.out, okOdd, ← hokm, Bool.true_and, ← hM, ← hn]
    obtain ⟨L, hL⟩ : ∃ L, L = likR M X n := ⟨_, rfl⟩
    have HT := Lib.hid (fun (k : Nat) (hkK : k < K) (xm : Option Addr) (cm : Nat) (a : Option Addr) (c : Nat) w' (h1 : Rd w' xm n M) (h2 : Rd w' a n (X k)) => show Calls Try.prog 67 #[.slice a n c, .slice xm n cm] w' (FlbRet (if (nrmB (X k) n && nrmB M n) = true then L k else 0) (nrmB (X k) n && nrmB M n) w') from by
      have g3 : okLst (X k) n = true := by
        obtain ⟨g1, g2⟩ := hall k hkK
        rw [hn, ← g2]; exact g1
      rw [hL, show likR M X n k = lkD (X k) M n from lkD_comm _ _ _]
      exact l07Like_any a n c (X k) xm cm M w' h2 h1 g3 hoM _ _ _ (Lib.hid rfl) (Lib.hid rfl) (Lib.hid rfl) _ (Lib.hid rfl))
    have HFI := Lib.hid (fun (k : Nat) (hkK : k < K) (hb : (nrmB (X k) n && nrmB M n) = true) => show isFin .f32 (L k) = true from by
      rw [Bool.and_eq_true] at hb
      rw [hL]; exact likR_fin hk hn hoM hb.2 hkK hb.1)
    have HLT := Lib.hid (fun k => show L k < 4294967296 by rw [hL]; exact lkD_lt _ _ _)
    have HBD := Lib.hid (show ∀ k, k < K → (nrmB (X k) n && nrmB M n) = false → ok = false from fun k hkK hb => by
      rw [hoo]
      cases hp : nrmB M n
      · rfl
      · rw [hp, Bool.and_true] at hb; rw [allN_no hkK hb]; rfl)
    have HOK := Lib.hid (fun (hb : ∀ j, j < K → (nrmB (X j) n && nrmB M n) = true) w' (hbl : Below w.heap.size w w') => show OddRet R ok w (.returned (.tuple #[.int .i64 (minI L K : Int), .bool true])) w' by
      have h0 := hb 0 (by omega)
      rw [Bool.and_eq_true] at h0
      have e : ok = true := by rw [hoo, h0.2, allN_yes (fun j hj => by have := hb j hj; rw [Bool.and_eq_true] at this; exact this.1)]; rfl
      rw [hR.out, e, if_pos rfl, ← hM, ← hn, ← hL]; exact ⟨rfl, hbl⟩)
    have HX := Lib.hid (show ∀ w', Below w.heap.size w w' → ∀ k, k < K → ∃ (b o : Nat) (c : Option Addr × Nat), w'.cell? ⟨b, o + k, none⟩ = some (.slice c.1 n c.2) ∧ xa = some ⟨b, o, none⟩ ∧ Rd w' c.1 n (X k) from fun w' hb k hkK => by
      obtain ⟨xb, xo, hxa, h2⟩ := RdR.below hX hb
      have e := hxa (by omega)
      obtain ⟨a, c, h1, _, h3⟩ := h2 k hkK
      rw [(HA.out k hkK).2, ← hn] at h1 h3
      exact ⟨xb, xo, (a, c), h1, e, h3⟩)
    have hX0 := hX
    obtain ⟨xb, xo, hxa, _⟩ := hX0
    have e := hxa (by omega)
    subst e
    clear hokm hk hfM hoM hM hn hoo hall hL hxa ho hR
    go_enter Try.func24, Try.ntmps24
    go_wp2_with fail
    refine (HM.out _ (by exact hX)).mono ?_
    rintro e0 w1 ⟨v0, Y0, rfl, O0, L0, hmm, B1⟩
    obtain ⟨x0, c0, rfl, _, _, R0⟩ := rd_of_own O0
    have R1 := rd_eq R0 (HY.out _ L0)
    clear O0 L0 R0 hX
    have HB1 := Blw.refl w1
    go_wp2
    go_loopw [6, 7, 20] (fun b l i wr => ∃ k : Nat, k ≤ K ∧ b = .int .i64 (minI L k : Nat) ∧ l = .float .f32 (leastW L k) ∧ i = .int .i64 k ∧ Blw w1 wr ∧ Hid (∀ j, j < k → (nrmB (X j) n && nrmB M n) = true)) (fun _ _ i _ => K - (intOf i).toNat)
    case atStart => exact ⟨0, Nat.zero_le _, rfl, rfl, rfl, HB1, Lib.hid fun _ h => absurd h (Nat.not_lt_zero _)⟩
    case round =>
      obtain ⟨k, hkk, rfl, rfl, rfl, HB, HH⟩ := hrel
      clear HB1
      have hBw := B1.trans (HB.out.mono B1.size)
      by_cases hlt : k < K
      · obtain ⟨b, o, ⟨a, c⟩, h1, h2, h3⟩ := HX.out wr hBw k hlt
        simp only [Option.some.injEq, Addr.mk.injEq, and_true] at h2
        obtain ⟨rfl, rfl⟩ := h2
        have hlt' : (k : Int) < (K : Int) := by omega
        go_wp2_with fail
        refine (HT.out k hlt _ _ a c _ (by exact R1.below HB.out) (by exact h3)).mono ?_
        rintro e0 w2 ⟨s, rfl, B2⟩
        have hB2 := hBw.trans (B2.mono hBw.size)
        replace HB := HB.next B2
        cases hb : (nrmB (X k) n && nrmB M n)
        · have HF := Lib.hid (HN.out (HBD.out k hlt hb) _ hB2)
          rw [if_neg (by simp)]
          go_wp2
          go_ret2
          exact HF.out
        · rw [if_pos rfl, pick_num (fin_nan (HFI.out k hlt hb))]
          have HN2 := Lib.hid (show ∀ j, j < k + 1 → (nrmB (X j) n && nrmB M n) = true from fun j hj => by
            by_cases hjk : j = k
            · subst hjk; exact hb
            · exact HH.out j (by omega))
          by_cases hk0 : k = 0
          · subst hk0
            have e1 : minI L 1 = 0 := by simp [minI]
            have e2 : leastW L 1 = L 0 := by unfold leastW; rw [if_neg (by omega), e1]
            clear hb
            go_wp2
            go_roundw
            case rel => exact ⟨1, by omega, by first | (rw [e1]; rfl) | (rw [e1]; trivial) | (simp [e1]), by rw [e2], by go_num, HB, HN2⟩
            case measure => simp [intOf]; omega
          · have hm := minI_lt L k (by omega)
            have e0 : leastW L k = L (minI L k) := by unfold leastW; rw [if_neg hk0]
            have hd := lt_key (HLT.out k) (HLT.out (minI L k)) (HFI.out k hlt hb) (HFI.out _ (by omega) (HH.out _ hm))
            have hz : ((k : Int) == 0) = false := by simpa using (by omega : ¬ (k : Int) = 0)
            rw [e0]
            obtain ⟨j, hj⟩ : ∃ j, j = minI L k := ⟨_, rfl⟩
            rw [← hj] at hd ⊢
            cases hc : decide (keyW (L k) < keyW (L j))
            · rw [hc] at hd
              have HP := Lib.hid (show minI L (k + 1) = j by
                unfold minI; rw [← hj, if_neg (of_decide_eq_false hc)])
              have HQ := Lib.hid (show leastW L (k + 1) = L j by unfold leastW; rw [if_neg (by omega), HP.out])
              clear hb hc e0 hj hm
              go_wp2
              go_roundw
              case rel => exact ⟨k + 1, by omega, by rw [HP.out], by rw [HQ.out], by go_num, HB, HN2⟩
              case measure => simp [intOf]; omega
            · rw [hc] at hd
              have HP := Lib.hid (show minI L (k + 1) = k by
                unfold minI; rw [← hj, if_pos (of_decide_eq_true hc)])
              have HQ := Lib.hid (show leastW L (k + 1) = L k by unfold leastW; rw [if_neg (by omega), HP.out])
              clear hb hc e0 hj hm
              go_wp2
              go_roundw
              case rel => exact ⟨k + 1, by omega, by rw [HP.out], by rw [HQ.out], by go_num, HB, HN2⟩
              case measure => simp [intOf]; omega
      · have hkn : k = K := by omega
        subst hkn
        have HF := Lib.hid (HOK.out HH.out _ hBw)
        go_wp2
        go_ret2
        exact HF.out

end Go.Proofs.Ytbblohjldkpcnab
