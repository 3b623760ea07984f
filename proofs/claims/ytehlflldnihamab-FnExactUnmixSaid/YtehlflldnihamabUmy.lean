/- Shares found in rounds: as the program does it, for any rounds. -/
import Derived.Test.YtehlflldnihamabUmm
namespace Go.Proofs.Ytehlflldnihamab
open Go Go.ChangeShapes Go.WideShapes Go.ChangeAt Go.RowKit

set_option maxRecDepth 100000 in
set_option maxHeartbeats 3200000 in
theorem implUnm_any (la : Option Addr) (n cl : Nat) (L : Nat → Nat) (xa : Option Addr) (K cap : Nat) (N : Nat → Nat) (X : Nat → Nat → Nat) (T : Int) (w : World) (hL : Rd w la n L) (hX : RdR w xa K N X) (hn : n ≤ 1048576) (h : K + totN N K ≤ 1048576) (ok : Bool) (ho : Hid (ok = umOk L n K N X T)) (m : Nat) (hm : Hid (m = if ok = true then K else 0)) (r : Nat) (hr : Hid (r = if ok = true then umD L X n K T.toNat else 0)) :
    Calls Try.prog 35 #[.slice la n cl, .slice xa K cap, .int .i64 T] w (UmRet (umT L X n K T.toNat) m r ok w) := by
  have HNO := Lib.hid (fun (h : ok = false) w' (hb : Below w.heap.size w w') => show UmRet (umT L X n K T.toNat) m r ok w (.returned (.tuple #[.slice none 0 0, .float .f32 0, .bool false])) w' by
    rw [hm.out, hr.out, h, if_neg (by simp), if_neg (by simp)]; exact umNo hb)
  by_cases h1 : T < 1
  · have HN := Lib.hid (HNO.out (by rw [ho.out, umOk, inB_lo h1, Bool.and_false]; rfl))
    have d0 : decide (T < 1) = true := decide_eq_true h1
    go_enter Try.func35, Try.ntmps35
    go_wp2
    refine wp_scope_rest 0 (fun _ _ => False) (fun _ _ => 0) rfl (fun _ _ h => h.elim) (fun _ => ?_)
    go_wp2
    simp only [Exit.jump]
    go_ret3
    exact HN.out _ (Below.refl _ w)
  · by_cases h2 : 64 < T
    · have HN := Lib.hid (HNO.out (by rw [ho.out, umOk, inB_hi h2, Bool.and_false]; rfl))
      have d0 : decide (T < 1) = false := decide_eq_false h1
      have d1 : decide (64 < T) = true := decide_eq_true h2
      go_enter Try.func35, Try.ntmps35
      go_wp2
      refine wp_scope_rest 0 (fun _ _ => False) (fun _ _ => 0) rfl (fun _ _ h => h.elim) (fun _ => ?_)
      go_wp2
      simp only [Exit.jump]
      go_ret3
      exact HN.out _ (Below.refl _ w)
    · obtain ⟨t, rfl⟩ : ∃ t : Nat, T = (t : Int) := ⟨T.toNat, by omega⟩
      exact implUnm_yes la n cl L xa K cap N X t w hL hX hn h (by omega) (by omega) ok ho m hm r hr
end Go.Proofs.Ytehlflldnihamab
