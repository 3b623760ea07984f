
import Derived.Test.YtmpcalpapkedhaaMg1
import Derived.Test.YtmpcalpapkedhaaMk3
import Derived.Test.YtmpcalpapkedhaaNu5
import Derived.Test.YtmpcalpapkedhaaMg2
import Derived.Test.YtmpcalpapkedhaaPush
import Derived.Test.YtmpcalpapkedhaaOut
namespace Go.Proofs.Ytmpcalpapkedhaa
open Go Go.ChangeShapes Go.WideShapes Go.ChangeAt Go.RowKit
/- How high lines are at a place: as the model tells it. -/

def lsD (X : Nat → Ln) (x n : Nat) : Nat := sumV (fun j => lnM (X j) x) n
theorem lsD_succ (X : Nat → Ln) (x k : Nat) : fbin .add .f32 (lsD X x k) (lnM (X k) x) = lsD X x (k + 1) := rfl
set_option maxRecDepth 100000 in
set_option maxHeartbeats 1600000 in
theorem l05Sum_any (xa : Option Addr) (n cap : Nat) (X : Nat → Ln) (x : Nat) (w : World) (hX : RdN w xa n X) (hn : n ≤ 1048576) (hl : ∀ k, k < n → okLn (X k) = true) (hx : isFin .f32 x = true) :
    Calls Try.prog 252 #[.slice xa n cap, .float .f32 x] w (FltP (lsD X x n) w) := by
  obtain ⟨xb, xo, hxa, hcx⟩ := hX
  have HX := Lib.hid hcx
  clear hcx
  have HL := Lib.hid hl
  clear hl
  have hp := fun op => fbin_pick_l op .f32
  go_enter Try.func252, Try.ntmps252
  go_wp2
  go_loopw [5, 9] (fun q i wr => ∃ k m s : Nat, k ≤ n ∧ i = .int .i64 k ∧ wr = w.drewN m ∧ q = .float .f32 (pick .f32 (lsD X x k) s)) (fun _ i _ => n - (intOf i).toNat)
  case atStart => exact ⟨0, 0, 0, Nat.zero_le _, rfl, rfl, by rw [show lsD X x 0 = 0 from rfl, pick_num (by decide +kernel)]⟩
  case round =>
    obtain ⟨k, m, s, hk, rfl, rfl, rfl⟩ := hrel
    by_cases hlt : k < n
    · have e := hxa (by omega)
      subst e
      have HV := Lib.hid (l05At_any xb (xo + k * 4) (X k) x (w.drewN m) (HX.out k hlt) (HL.out k hlt) hx _ (Lib.hid rfl))
      have hd := lsD_succ X x k
      obtain ⟨D, hD⟩ : ∃ D, D = lsD X x k := ⟨_, rfl⟩
      obtain ⟨V, hV⟩ : ∃ V, V = lnM (X k) x := ⟨_, rfl⟩
      rw [← hD, ← hV] at hd
      rw [← hV] at HV
      have HD := Lib.hid hD
      have HE := Lib.hid hd
      have hp2 := fun op => fbin_pick_r op .f32
      rw [← HD.out]
      clear hD hV hd
      go_wp2_with (first | (go_at_call 187; refine HV.out.mono ?_; rintro e w' ⟨s', q, rfl, rfl⟩) | ((with_reducible refine wpL_fbin ?_); refine ⟨_, _, _, rfl, rfl, rfl, fun s n => ?_⟩))
      go_roundw
      case rel => exact ⟨k + 1, _, _, by omega, by go_num, rfl, by rw [HE.out]⟩
      case measure => simp [intOf]; omega
    · have hkn : k = n := by omega
      subst hkn
      go_wp2
      go_ret
      exact ⟨s, m, rfl, rfl⟩
/-- Whether lines are told at a place. -/
def lsOk (X : Nat → Ln) (n x : Nat) : Bool := (allLn X n && decide (n ≤ 12)) && isFin .f32 x
def lsV (X : Nat → Ln) (n x : Nat) : Nat := if lsOk X n x = true then numQ (lsD X x n) else 0
def lsB (X : Nat → Ln) (n x : Nat) : Bool := lsOk X n x && isFin .f32 (lsD X x n)
set_option maxRecDepth 100000 in
set_option maxHeartbeats 1600000 in
theorem specLinesAt_any (xa : Option Addr) (n cap : Nat) (X : Nat → Ln) (x : Nat) (w : World) (hX : RdN w xa n X) (hn : n ≤ 1048576) (R : Nat) (ok : Bool) (hR : Hid (R = lsV X n x)) (ho : Hid (ok = lsB X n x)) :
    Calls Try.prog 230 #[.slice xa n cap, .float .f32 x] w (QRet R ok w) := by
  have HS := Lib.hid (fun w hX => l05Lines_any xa n cap X w hX hn _ (Lib.hid rfl))
  cases c : (allLn X n && decide (n ≤ 12))
  · rw [c] at HS
    have HR := Lib.hid (show ∀ m, QRet R ok w (.returned (.tuple #[.float .f32 0, .bool false])) (w.drewN m) from fun m => ⟨0, m, by rw [hR.out, ho.out, lsV, lsB, lsOk, c]; simp [pick_nul], rfl⟩)
    clear c hR ho
    go_enter Try.func230, Try.ntmps230
    go_wp2_with (go_at_call 93; refine (HS.out _ (by exact hX)).mono ?_; rintro e w' ⟨rfl, q, rfl⟩)
    go_ret2
    exact HR.out _
  · rw [c] at HS
    cases d : isFin .f32 x
    · have HR := Lib.hid (show ∀ m, QRet R ok w (.returned (.tuple #[.float .f32 0, .bool false])) (w.drewN m) from fun m => ⟨0, m, by rw [hR.out, ho.out, lsV, lsB, lsOk, c, d]; simp [pick_nul], rfl⟩)
      clear c hR ho
      go_enter Try.func230, Try.ntmps230
      go_wp2_with (first | (go_at_call 93; refine (HS.out _ (by exact hX)).mono ?_; rintro e w' ⟨rfl, q, rfl⟩) | (first | (go_at_call 94; refine (l01Finite_any _ _).mono ?_; rintro e w' ⟨rfl, q, rfl⟩)))
      go_ret2
      exact HR.out _
    · have hl : ∀ k, k < n → okLn (X k) = true := allLn_at (by simp only [Bool.and_eq_true] at c; exact c.1)
      have HT := Lib.hid (fun w hX => l05Sum_any xa n cap X x w hX hn hl d)
      obtain ⟨D, hD⟩ : ∃ D, D = lsD X x n := ⟨_, rfl⟩
      rw [← hD] at HT
      have HQ := Lib.hid (fun s w => numS_any D s w)
      have eR : R = numQ D := by rw [hR.out, lsV, if_pos (by rw [lsOk, c, d]; rfl), hD]
      have eo : ok = isFin .f32 D := by rw [ho.out, lsB, lsOk, c, d, hD]; rfl
      have HR := Lib.hid (show ∀ s m, QRet R ok w (.returned (.tuple #[.float .f32 (pick .f32 (numQ D) s), .bool (isFin .f32 D)])) (w.drewN m) from fun s m => ⟨s, m, by rw [eR, eo], rfl⟩)
      clear c hR ho hl eR eo hD
      go_enter Try.func230, Try.ntmps230
      go_wp2_with (first | (go_at_call 93; refine (HS.out _ (by exact hX)).mono ?_; rintro e w' ⟨rfl, q, rfl⟩) | (first | (go_at_call 94; refine (l01Finite_any _ _).mono ?_; rintro e w' ⟨rfl, q, rfl⟩)) | (go_at_call 252; refine (HT.out _ (by exact hX)).mono ?_; rintro e w' ⟨s', q, rfl, rfl⟩) | (go_at_call 186; refine (HQ.out _ _).mono ?_; rintro e w' ⟨s2, m2, rfl, rfl⟩))
      go_ret2
      exact HR.out _ _

/- How high lines are at a place: as the program tells it. -/

def liD (X : Nat → Ln) (x n : Nat) : Nat := sumV (fun j => lnI (X j) x) n
theorem liD_succ (X : Nat → Ln) (x k : Nat) : fbin .add .f32 (liD X x k) (lnI (X k) x) = liD X x (k + 1) := rfl
theorem lnM_lt (l : Ln) (x : Nat) : lnM l x < 4294967296 := by
  unfold lnM
  split
  · exact fbin_lt _ _ _
  · split
    · exact fbin_lt _ _ _
    · split
      · exact fbin_lt _ _ _
      · unfold lnR roofW
        split
        · decide
        · exact fbin_lt _ _ _
theorem liD_eq {X : Nat → Ln} {x n : Nat} (hl : ∀ k, k < n → okLn (X k) = true) (hx : isFin .f32 x = true) : liD X x n = lsD X x n :=
  sumV_zeq (fun k => lnM_lt _ _) n fun k hk => ln_zeq (hl k hk) hx
theorem liD_nf {X : Nat → Ln} {x n k : Nat} (hl : ∀ k, k < n → okLn (X k) = true) (hx : isFin .f32 x = true) (hk : k < n) (h : isFin .f32 (lnI (X k) x) = false) : isFin .f32 (lsD X x n) = false := by
  refine sumV_nf (j := k) ?_ n hk
  rw [(ln_zeq (hl k hk) hx).fin]
  exact h
theorem LineAt_yes (l : Ln) (x : Nat) (w : World) (hl : okLn l = true) (hx : isFin .f32 x = true) (R : Nat) (hR : R = lnI l x) (h : isFin .f32 R = true) :
    Calls Try.prog 227 #[.agg #[.float .f32 l.p, .float .f32 l.h, .float .f32 l.d, .int .i64 l.k], .float .f32 x] w fun e w' => e = .returned (.tuple #[.float .f32 R, .bool true]) ∧ Below w.heap.size w w' := by
  refine (LineAt_any l x w hl hx R (Lib.hid hR)).mono ?_
  rintro e w' ⟨s, rfl, hb⟩
  refine ⟨?_, hb⟩
  have e1 : numQ R = R := by simp [numQ, h]
  rw [e1, h, pick_num (num_fin h)]
theorem LineAt_no (l : Ln) (x : Nat) (w : World) (hl : okLn l = true) (hx : isFin .f32 x = true) (R : Nat) (hR : R = lnI l x) (h : isFin .f32 R = false) :
    Calls Try.prog 227 #[.agg #[.float .f32 l.p, .float .f32 l.h, .float .f32 l.d, .int .i64 l.k], .float .f32 x] w fun e w' => e = .returned (.tuple #[.float .f32 0, .bool false]) ∧ Below w.heap.size w w' := by
  refine (LineAt_any l x w hl hx R (Lib.hid hR)).mono ?_
  rintro e w' ⟨s, rfl, hb⟩
  refine ⟨?_, hb⟩
  have e1 : numQ R = 0 := by simp [numQ, h]
  rw [e1, h, pick_nul]
set_option maxRecDepth 100000 in
set_option maxHeartbeats 3200000 in
theorem implLinesAt_any (xa : Option Addr) (n cap : Nat) (X : Nat → Ln) (x : Nat) (w : World) (hX : RdN w xa n X) (hn : n ≤ 1048576) (R : Nat) (ok : Bool) (hR : Hid (R = lsV X n x)) (ho : Hid (ok = lsB X n x)) :
    Calls Try.prog 191 #[.slice xa n cap, .float .f32 x] w (LnRet R ok w) := by
  have HS := Lib.hid (fun w hX => areLines_any xa n cap X 12 w hX hn _ (Lib.hid rfl))
  cases c : (allLn X n && decide (n ≤ 12))
  · rw [c] at HS
    have HR := Lib.hid (show ∀ w', Below w.heap.size w w' → LnRet R ok w (.returned (.tuple #[.float .f32 0, .bool false])) w' from fun w' hb => ⟨0, by rw [hR.out, ho.out, lsV, lsB, lsOk, c]; simp [pick_nul], hb⟩)
    clear c hR ho
    go_enter Try.func191, Try.ntmps191
    go_wp2_with (go_at_call 96; refine (HS.out _ (by exact hX)).mono ?_; rintro e w' ⟨rfl, B0⟩)
    go_ret2
    exact HR.out _ B0
  · rw [c] at HS
    cases d : isFin .f32 x
    · have HR := Lib.hid (show ∀ w', Below w.heap.size w w' → LnRet R ok w (.returned (.tuple #[.float .f32 0, .bool false])) w' from fun w' hb => ⟨0, by rw [hR.out, ho.out, lsV, lsB, lsOk, c, d]; simp [pick_nul], hb⟩)
      clear c hR ho
      go_enter Try.func191, Try.ntmps191
      go_wp2_with (first | (go_at_call 96; refine (HS.out _ (by exact hX)).mono ?_; rintro e w' ⟨rfl, B0⟩) | (first | (go_at_call 166; refine (IsFinite_any _ _).mono ?_; rintro e w' ⟨rfl, q, rfl⟩)))
      go_ret2
      refine HR.out _ ?_
      (repeat (first | with_reducible exact Below.refl _ _ | with_reducible refine Below.drewN ?_ _ | with_reducible refine Below.setCell ?_ (by simp; try omega) _ | with_reducible refine Below.alloc ?_ (by simp; try omega) _))
      exact B0
    · have hl : ∀ k, k < n → okLn (X k) = true := allLn_at (by simp only [Bool.and_eq_true] at c; exact c.1)
      obtain ⟨D, hD⟩ : ∃ D, D = lsD X x n := ⟨_, rfl⟩
      have eR : R = numQ D := by rw [hR.out, lsV, if_pos (by rw [lsOk, c, d]; rfl), hD]
      have eo : ok = isFin .f32 D := by rw [ho.out, lsB, lsOk, c, d, hD]; rfl
      have HR := Lib.hid (show ∀ s w', Below w.heap.size w w' → LnRet R ok w (.returned (.tuple #[.float .f32 (pick .f32 (numQ D) s), .bool (isFin .f32 D)])) w' from fun s w' hb => ⟨s, by rw [eR, eo], hb⟩)
      have HZ := Lib.hid (show isFin .f32 D = false → ∀ w', Below w.heap.size w w' → LnRet R ok w (.returned (.tuple #[.float .f32 0, .bool false])) w' from fun h w' hb => ⟨0, by rw [eR, eo, h]; simp [numQ, h, pick_nul], hb⟩)
      have HQ := Lib.hid (fun s w => numI_any D s w)
      have HL := Lib.hid hl
      have HD := Lib.hid hD
      clear c hR ho hl eR eo hD
      obtain ⟨xb, xo, hxa, hcx⟩ := id hX
      have HX := Lib.hid hcx
      clear hcx
      have hp := fun op => fbin_pick_l op .f32
      go_enter Try.func191, Try.ntmps191
      go_wp2_with (first | (go_at_call 96; refine (HS.out _ (by exact hX)).mono ?_; rintro e w1 ⟨rfl, B0⟩) | (first | (go_at_call 166; refine (IsFinite_any _ _).mono ?_; rintro e w' ⟨rfl, q, rfl⟩)))
      have hB1 : Below w.heap.size w (w1.drewN q) := Below.drewN B0 q
      go_loopw [6, 21] (fun v i wr => ∃ k s : Nat, k ≤ n ∧ i = .int .i64 k ∧ Below w.heap.size w wr ∧ v = .float .f32 (pick .f32 (liD X x k) s)) (fun _ i _ => n - (intOf i).toNat)
      case atStart => exact ⟨0, 0, Nat.zero_le _, rfl, hB1, by rw [show liD X x 0 = 0 from rfl, pick_num (by decide +kernel)]⟩
      case round =>
        obtain ⟨k, s, hk, rfl, hBk, rfl⟩ := hrel
        by_cases hlt : k < n
        · have e := hxa (by omega)
          subst e
          obtain ⟨r0, r1, r2, r3⟩ := LnAt.below (HX.out k hlt) hBk
          have hsz := hBk.size
          have hA := hBk.alloc hsz (.cells #[.float .f32 (X k).p, .float .f32 (X k).h, .float .f32 (X k).d, .int .i64 (X k).k] 120)
          have HA := Lib.hid hA
          clear hA
          have hst := run_store_f32
          have hst2 := run_store_i64
          obtain ⟨V, hV⟩ : ∃ V, V = lnI (X k) x := ⟨_, rfl⟩
          cases g : isFin .f32 V
          · have HV := Lib.hid (fun w => LineAt_no (X k) x w (HL.out k hlt) d V hV g)
            have HN := Lib.hid (HZ.out (by rw [HD.out]; exact liD_nf HL.out d hlt (by rw [← hV]; exact g)))
            clear hV g
            go_wp2_with (go_at_call 227; refine (HV.out _).mono ?_; rintro e w2 ⟨rfl, B2⟩)
            go_ret2
            exact HN.out _ (HA.out.trans (B2.mono HA.out.size))
          · have HV := Lib.hid (fun w => LineAt_yes (X k) x w (HL.out k hlt) d V hV g)
            have hd := liD_succ X x k
            obtain ⟨D', hD'⟩ : ∃ D, D = liD X x k := ⟨_, rfl⟩
            rw [← hD', ← hV] at hd
            have HD2 := Lib.hid hD'
            have HE := Lib.hid hd
            rw [← HD2.out]
            clear hD' hV hd g
            go_wp2_with (first | (go_at_call 227; refine (HV.out _).mono ?_; rintro e w2 ⟨rfl, B2⟩) | ((with_reducible refine wpL_fbin ?_); refine ⟨_, _, _, rfl, rfl, rfl, fun s n => ?_⟩))
            go_roundw
            case rel =>
              refine ⟨k + 1, _, by omega, by go_num, ?_, by rw [HE.out]⟩
              exact Below.drewN (HA.out.trans (B2.mono HA.out.size)) _
            case measure => simp [intOf]; omega
        · have hkn : k = n := by omega
          subst hkn
          have e : liD X x k = D := by rw [HD.out]; exact liD_eq HL.out d
          rw [e]
          go_wp2_with (go_at_call 115; refine (HQ.out _ _).mono ?_; rintro e w' ⟨s2, m2, rfl, rfl⟩)
          go_ret2
          exact HR.out _ _ (Below.drewN hBk _)

/- How high lines are at a place that may be not a number: what both sides tell, word for word. -/

theorem lsOk_pick (X : Nat → Ln) (n x s : Nat) : lsOk X n (pick .f32 x s) = lsOk X n x := by
  rw [lsOk, lsOk, isFin_pick]
theorem lsV_pick (X : Nat → Ln) (n x s : Nat) : lsV X n (pick .f32 x s) = lsV X n x ∧ lsB X n (pick .f32 x s) = lsB X n x := by
  cases h : lsOk X n x
  · rw [lsV, lsV, lsB, lsB, lsOk_pick, h]
    exact ⟨rfl, rfl⟩
  · have hx : isFin .f32 x = true := by
      rw [lsOk, Bool.and_eq_true] at h
      exact h.2
    rw [pick_num (num_fin hx)]
    exact ⟨rfl, rfl⟩
theorem lsV_num (X : Nat → Ln) (n x s : Nat) : pick .f32 (lsV X n x) s = lsV X n x := by
  unfold lsV numQ
  split
  · split
    · rename_i h; exact pick_num (num_fin h) s
    · exact pick_nul s
  · exact pick_nul s
theorem lsV_fin (X : Nat → Ln) (n x : Nat) : isFin .f32 (lsV X n x) = true := by
  unfold lsV numQ
  split
  · split
    · rename_i h; exact h
    · decide +kernel
  · decide +kernel
theorem lsB_bad {X : Nat → Ln} {n x : Nat} (h : (allLn X n && decide (n ≤ 12)) = false) : lsB X n x = false := by
  rw [lsB, lsOk, h, Bool.false_and, Bool.false_and]
theorem specLs_any (xa : Option Addr) (n cap : Nat) (X : Nat → Ln) (x s : Nat) (w : World) (hX : RdN w xa n X) (hn : n ≤ 1048576) :
    Calls Try.prog 230 #[.slice xa n cap, .float .f32 (pick .f32 x s)] w fun e w' => e = .returned (.tuple #[.float .f32 (lsV X n x), .bool (lsB X n x)]) ∧ ∃ m, w' = w.drewN m := by
  obtain ⟨e1, e2⟩ := lsV_pick X n x s
  refine (specLinesAt_any xa n cap X _ w hX hn (lsV X n x) (lsB X n x) (Lib.hid e1.symm) (Lib.hid e2.symm)).mono ?_
  rintro e w' ⟨t, m, rfl, rfl⟩
  exact ⟨by rw [lsV_num], _, rfl⟩
theorem implLs_any (xa : Option Addr) (n cap : Nat) (X : Nat → Ln) (x s : Nat) (w : World) (hX : RdN w xa n X) (hn : n ≤ 1048576) :
    Calls Try.prog 191 #[.slice xa n cap, .float .f32 (pick .f32 x s)] w fun e w' => e = .returned (.tuple #[.float .f32 (lsV X n x), .bool (lsB X n x)]) ∧ Below w.heap.size w w' := by
  obtain ⟨e1, e2⟩ := lsV_pick X n x s
  refine (implLinesAt_any xa n cap X _ w hX hn (lsV X n x) (lsB X n x) (Lib.hid e1.symm) (Lib.hid e2.symm)).mono ?_
  rintro e w' ⟨t, rfl, hb⟩
  exact ⟨by rw [lsV_num], hb⟩
/-- A place of a list. -/
def plc (a b k : Nat) : Nat := fbin .add .f32 a (fbin .mul .f32 (floatOfInt .f32 (k : Int)) b)
def spR (X : Nat → Ln) (n a b k : Nat) : Nat := lsV X n (plc a b k)
/-- Whether the first m places are all told. -/
def spB (X : Nat → Ln) (n a b m : Nat) : Bool := (List.range m).all fun k => lsB X n (plc a b k)
theorem spB_no {X : Nat → Ln} {n a b m k : Nat} (hk : k < m) (h : lsB X n (plc a b k) = false) : spB X n a b m = false := by
  rw [spB, List.all_eq_false]
  exact ⟨k, by simpa using hk, by simp [h]⟩
theorem spB_yes {X : Nat → Ln} {n a b m : Nat} (h : ∀ k, k < m → lsB X n (plc a b k) = true) : spB X n a b m = true := by
  rw [spB, List.all_eq_true]
  intro k hk
  exact h k (by simpa using hk)

/- A spectrum of lines: as the model tells it. -/

set_option maxRecDepth 100000 in
theorem l05Place_any (a b k : Nat) (w : World) : Calls Try.prog 128 #[.float .f32 a, .float .f32 b, .int .i64 (k : Int)] w (FltP (plc a b k) w) := by
  have hp := fun op => fbin_pick_l op .f32
  have hq := fun op => fbin_pick_r op .f32
  have HF := Lib.hid (show ∀ s m, FltP (plc a b k) w (.returned (.float .f32 (pick .f32 (fbin .add .f32 a (fbin .mul .f32 (floatOfInt .f32 (k : Int)) b)) s))) (w.drewN m) from fun s m => ⟨s, m, rfl, rfl⟩)
  go_enter Try.func128, Try.ntmps128
  go_wp2_with ((with_reducible refine wpL_fbin ?_); refine ⟨_, _, _, rfl, rfl, rfl, fun s n => ?_⟩)
  go_ret
  exact HF.out _ _
end Go.Proofs.Ytmpcalpapkedhaa
