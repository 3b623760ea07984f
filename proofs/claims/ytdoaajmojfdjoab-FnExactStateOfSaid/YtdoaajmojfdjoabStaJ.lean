/- The state of a level, as the program tells it. -/
import Derived.Test.YtdoaajmojfdjoabStaI
namespace Go.Proofs.Ytdoaajmojfdjoab
open Go Go.ChangeShapes Go.WideShapes Go.ChangeAt Go.RowKit

def nearE (E : Nat) : Nat := fbin .sub .f32 E 981668463
theorem one_step {Z : Nat → Nat} {k : Nat} : LikeP Z (fun _ => 1065353216) k → LikeP (fun j => if j = k then 1065353216 else Z j) (fun _ => 1065353216) (k + 1) := fun h => h.push (s := 0) (by rw [pick_num (by decide +kernel)])
theorem next_step {X : Nat → Nat} {b near : Nat} {S : Nat → Nat} {n : Nat} (k : Nat) : ∀ j, j < n → (fun j => if j = k then nextR X b near S n k else (fun j => if j < k then nextR X b near S n j else solR X b near S n j) j) j = (fun j => if j < k + 1 then nextR X b near S n j else solR X b near S n j) j := fun j _ => by
  by_cases h : j = k
  · subst h; simp
  · by_cases h2 : j < k
    · simp only [if_neg h, if_pos h2, if_pos (by omega : j < k + 1)]
    · simp only [if_neg h, if_neg h2, if_neg (by omega : ¬ j < k + 1)]
set_option maxRecDepth 100000 in
set_option maxHeartbeats 6400000 in
theorem implSta_yes (xa : Option Addr) (N cap : Nat) (X : Nat → Nat) (b E r : Nat) (w : World) (hX : Rd w xa N X) (hok : rowsOk X N b = true) (hE : isFin .f32 E = true) (hr1 : 1 ≤ r) (hr2 : r ≤ 8)
    (R : Nat → Nat) (M : Nat) (ok : Bool) (hR : R = staR X b (nearE E) N r) (hM : M = if finL R N = true then N else 0) (hk : ok = finL R N) :
    Calls Try.prog 31 #[.slice xa N cap, .float .f32 b, .float .f32 E, .int .i64 (r : Int)] w (RetStateOf R M ok w) := by
  obtain ⟨h1, h2⟩ := rowsOk_bounds hok
  have HR := Lib.hid hR
  have HM := Lib.hid hM
  have HK := Lib.hid hk
  clear hR hM hk
  have d1 : decide ((r : Int) < 1) = false := decide_eq_false (by omega)
  have d2 : decide ((8 : Int) < (r : Int)) = false := decide_eq_false (by omega)
  obtain ⟨i0, hi, hz0, hz1, hz2⟩ := info_parts infoF
  have hb : i0.bytes * N ≤ 281474976710656 := by rw [hz2]; omega
  have hm : N ≤ maxLen := by unfold maxLen; omega
  go_enter Try.func31, Try.ntmps31
  go_wp2_with fail
  refine (validRows_any _ _ _ X b _ hX (by omega)).mono ?_
  rintro e w' ⟨rfl, q, rfl⟩
  go_wp2_with (first | ((with_reducible refine wpL_fbin ?_); refine ⟨_, _, _, rfl, rfl, rfl, fun s n => ?_⟩) | (go_at_call 71; refine (IsFinite_any _ _).mono ?_; rintro e w' ⟨rfl, q, rfl⟩) | (at_make; refine wpList_make_full _ rfl _ _ 22 rfl w.heap.size 23 i0 (.float .f32 0) 1 Try.underlying22 hi hz0 hz1 _ _ _ _ N rfl rfl rfl rfl hb hm (Nat.le_refl _) ?_))
  intro w1 hown hgr
  rw [madeF] at hown
  have B1 : Below w.heap.size w w1 := (Below.drewN (Below.refl _ w) _).grown hgr (Nat.le_refl _) (fun _ h => by cases h)
  clear hgr hb hm hi hz0 hz1 hz2
  obtain ⟨G, hG⟩ : ∃ G, G = w.heap.size := ⟨_, rfl⟩
  have HG := Lib.hid hG
  have OG := show w1.ownsRow G 23 1 (.slice (some ⟨G, 0, none⟩) N N) N (rowOf (fun _ => 0) N) by rw [hG]; exact hown
  rw [← hG] at B1
  clear hown
  go_wp2
  rw [show w.heap.size = G from HG.out.symm]
  clear hG
  go_loopw [39] (fun i wr => ∃ (k : Nat) (Z : Nat → Nat), k ≤ N ∧ i = .int .i64 k ∧ wr.ownsRow G 23 1 (.slice (some ⟨G, 0, none⟩) N N) N (rowOf Z N) ∧ LikeP Z (fun _ => 1065353216) k ∧ Below G w wr) (fun i _ => N - (intOf i).toNat)
  case atStart => exact ⟨0, fun _ => 0, Nat.zero_le _, rfl, OG, fun _ h => absurd h (Nat.not_lt_zero _), B1⟩
  case round =>
    obtain ⟨k, Z, hk, rfl, oz, lz, hbl⟩ := hrel
    clear OG B1
    by_cases hlt : k < N
    · have st := fun u => own_store0 oz hlt u
      have HO := Lib.hid oz
      have HB := Lib.hid hbl
      clear oz hbl
      go_wp2
      go_roundw
      case rel => exact ⟨k + 1, _, by omega, by go_num, own_stored HO.out k _, one_step lz, Below.setCell HB.out (Nat.le_refl _) _⟩
      case measure => simp [intOf]; omega
    · have hkN : k = N := by omega
      subst hkN
      clear hlt hk
      go_wp2
      go_loopw [47] (fun i wr => ∃ (t : Nat) (Z : Nat → Nat), t ≤ r ∧ i = .int .i64 t ∧ wr.ownsRow G 23 1 (.slice (some ⟨G, 0, none⟩) k k) k (rowOf Z k) ∧ LikeP Z (staR X b (nearE E) k t) k ∧ Below G w wr) (fun i _ => r - (intOf i).toNat)
      case atStart => exact ⟨0, Z, Nat.zero_le _, rfl, oz, lz, hbl⟩
      case round =>
        obtain ⟨t, Z, ht, rfl, oz, lz, hbl⟩ := hrel
        by_cases hlt : t < r
        · obtain ⟨S, hS⟩ : ∃ S, S = staR X b (nearE E) k t := ⟨_, rfl⟩
          rw [← hS] at lz
          have hS1 : staR X b (nearE E) k (t + 1) = nextR X b (nearE E) S k := by rw [hS]; rfl
          have HS := Lib.hid hS1
          have hGw : w.heap.size ≤ G := Nat.le_of_eq HG.out.symm
          have hGr : G ≤ wr.heap.size := Nat.le_of_lt (own_lt oz)
          have HW : Blw w wr := Blw.nextB (Blw.refl w) (hbl.mono hGw)
          have HB := Lib.hid hbl
          clear hS hS1 hbl
          go_wp2_with fail
          refine (solve_any w xa k cap X hX b _ G G k S Z _ (by exact HW) hGw hGr (by exact oz) lz h1 h2).mono ?_
          rintro e0 w2 ⟨rfl, ⟨Z2, oz2, lz2⟩, b2⟩
          rw [solR_pick] at lz2
          have lz3 : LikeP Z2 (solR X b (nearE E) S k) k := lz2
          have HB2 := Lib.hid (HB.out.trans b2)
          clear b2 lz2 oz lz HW
          go_wp2_with fail
          refine (sumSq_any _ k _ Z2 _ _ (by exact rd_own oz2) lz3 (by omega)).mono ?_
          rintro e0 w3 ⟨s1, q1, rfl, rfl⟩
          go_wp2_with fail
          refine (RootNumber_any _ _).mono ?_
          rw [rootT_pick]
          rintro e0 w4 ⟨s2, q2, rfl, rfl⟩
          obtain ⟨L, hL⟩ : ∃ L, L = rootT (sqR (solR X b (nearE E) S k) k) := ⟨_, rfl⟩
          rw [← hL]
          have HL := Lib.hid hL
          clear hL
          go_wp2
          obtain ⟨wo, hwo⟩ : ∃ wo : World, wo = (w2.drewN q1).drewN q2 := ⟨_, rfl⟩
          have ow : wo.ownsRow G 23 1 (.slice (some ⟨G, 0, none⟩) k k) k (rowOf Z2 k) := by rw [hwo]; exact oz2
          have bw : Below G w wo := by rw [hwo]; exact Below.drewN (Below.drewN HB2.out _) _
          go_loopw [59] (fun i wr => ∃ (q : Nat) (Z : Nat → Nat), q ≤ k ∧ i = .int .i64 q ∧ wr.ownsRow G 23 1 (.slice (some ⟨G, 0, none⟩) k k) k (rowOf Z k) ∧ LikeP Z (fun j => if j < q then nextR X b (nearE E) S k j else solR X b (nearE E) S k j) k ∧ Below G w wr) (fun i _ => k - (intOf i).toNat)
          case atStart => exact ⟨0, Z2, Nat.zero_le _, rfl, oz2, by simpa using lz3, Below.drewN HB2.out _⟩
          case round =>
            obtain ⟨q, Z, hq, rfl, oz, lz, hbl⟩ := hrel
            by_cases hql : q < k
            · have z1 := own_cell oz hql
              obtain ⟨s3, e3⟩ := lz q hql
              simp only [if_neg (show ¬ q < q by omega)] at e3
              rw [e3] at z1
              clear e3
              obtain ⟨V, hV⟩ : ∃ V, V = solR X b (nearE E) S k q := ⟨_, rfl⟩
              rw [← hV] at z1
              have HV := Lib.hid (show fbin .quo .f32 V L = nextR X b (nearE E) S k q by rw [hV, HL.out]; rfl)
              have hp := fbin_pick_l
              have hr := fbin_pick_r
              have st := fun a u => own_store oz hql a u
              have HO := Lib.hid oz
              have HB3 := Lib.hid hbl
              clear oz hbl hV ow bw hwo
              go_wp2_with ((with_reducible refine wpL_fbin ?_); refine ⟨_, _, _, rfl, rfl, rfl, fun s n => ?_⟩)
              go_roundw
              case rel => exact ⟨q + 1, _, by omega, by go_num, own_stored (own_drew HO.out _) q _, (lz.set (r := nextR X b (nearE E) S k q) (by rw [HV.out])).congr (next_step q), Below.setCell (Below.drewN HB3.out _) (Nat.le_refl _) _⟩
              case measure => simp [intOf]; omega
            · have hqk : q = k := by omega
              subst hqk
              have lz4 : LikeP Z (staR X b (nearE E) q (t + 1)) q := lz.congr fun j hj => by rw [HS.out]; simp only [if_pos hj]
              have HZ := Lib.hid lz4
              clear ow bw hwo
              go_wp2
              go_roundw
              case rel => exact ⟨t + 1, Z, by omega, by go_num, oz, HZ.out, hbl⟩
              case measure => simp [intOf]; omega
        · have htr : t = r := by omega
          subst htr
          have lz' : LikeP Z R k := by rw [HR.out]; exact lz
          have hRd := rd_own oz
          have hbW : Below w.heap.size w wr := by rw [← HG.out]; exact hbl
          have ozW : wr.ownsRow w.heap.size 23 1 (.slice (some ⟨G, 0, none⟩) k k) k (rowOf Z k) := by rw [← HG.out]; exact oz
          have e := finL_like lz'.like
          clear lz hbl oz
          cases hf : finL Z k
          · obtain rfl : M = 0 := by rw [HM.out, ← e, hf]; rfl
            obtain rfl : ok = false := by rw [HK.out, ← e, hf]
            clear e
            go_wp2_with (go_at_call 86; refine (allFinite_any _ _ _ Z _ hRd (by omega)).mono ?_; rintro e w' ⟨rfl, q, rfl⟩)
            go_ret2
            exact ⟨_, Z, rfl, World.ownsRow_nil _ _ _ _, fun _ h => absurd h (Nat.not_lt_zero _), Nat.zero_le _, Below.drewN hbW _⟩
          · obtain rfl : M = k := by rw [HM.out, ← e, hf]; rfl
            obtain rfl : ok = true := by rw [HK.out, ← e, hf]
            clear e
            go_wp2_with (go_at_call 86; refine (allFinite_any _ _ _ Z _ hRd (by omega)).mono ?_; rintro e w' ⟨rfl, q, rfl⟩)
            go_ret2
            exact ⟨_, Z, rfl, ozW, lz'.like, by omega, Below.drewN hbW _⟩
end Go.Proofs.Ytdoaajmojfdjoab
