/- 'copy' of a row that came in to the beginning of a row of the call's own. -/
import Derived.Test.YtbblohjldkpcnabLiW
import Derived.Laws.CopyOwn
namespace Go.Proofs.Ytbblohjldkpcnab
open Go Go.ChangeShapes Go.WideShapes Go.ChangeAt Go.RowKit

theorem sizeF : (Try.prog.info? 43).map (·.size) = some 1 := by
  obtain ⟨i0, hi, _, hz, _⟩ := info_parts infoF
  rw [hi]
  exact congrArg some hz
theorem copyF_run {w0 w1 : World} {B g n M cx : Nat} {xa : Option Addr} {X Z : Nat → Nat} (hX : Rd w1 xa n X) (h1 : 0 < n) (hnM : n ≤ M)
    (ho : w1.ownsRow B 43 1 (.slice (some ⟨g, 0, none⟩) M M) M (rowOf Z M)) (hb : Below B w0 w1) :
    ∃ w2, (Builtin.copy_ #[24, 24] 3 #[.slice (some ⟨g, 0, none⟩) M M, .slice xa n cx]).run Try.prog w1 = .ok (goInt n) w2 ∧
      w2.ownsRow B 43 1 (.slice (some ⟨g, 0, none⟩) M M) M (rowOf (fun j => if j < n then X j else Z j) M) ∧ Below B w0 w2 := by
  obtain ⟨xb, xo, hxa, hcx⟩ := hX
  have e := hxa h1
  subst e
  obtain ⟨hlen, hd⟩ := ho
  rcases hd with ⟨h, _⟩ | ⟨b, cap, cur, hv, hB, hg, hn, hc, hs, ht⟩
  · cases h
  · simp only [Value.slice.injEq, Option.some.injEq, Addr.mk.injEq, true_and, and_true] at hv
    obtain ⟨rfl, rfl⟩ := hv
    rw [Nat.mul_one] at hs ht
    have hcur : cur.toList = rowOf Z M := by rw [← ht, List.take_of_length_le (by simp [hs])]
    have hr := run_copy_row (P := Try.prog) w1 24 24 3 43 g 0 M M ⟨xb, xo, none⟩ n cx cur 43 (rowOf X n) Try.underlying24 sizeF hg
      (by rw [rowOf_length]; exact (Nat.min_eq_left hnM).symm) (fun j v hj => by
        by_cases hjn : j < n
        · rw [rowOf_get _ _ _ hjn] at hj
          cases hj
          have := hcx j hjn
          by_cases h0 : j = 0
          · subst h0; simpa [Addr.add] using this
          · simpa [Addr.add, h0] using this
        · rw [List.getElem?_eq_none (by rw [rowOf_length]; omega)] at hj; cases hj) (by rw [rowOf_length, hs]; omega) (fun v hv => by obtain ⟨j, _, rfl⟩ := List.mem_map.1 hv; rfl)
    rw [rowOf_length] at hr
    have hrow : cur.toList.take 0 ++ rowOf X n ++ cur.toList.drop (0 + n) = rowOf (fun j => if j < n then X j else Z j) M := by
      rw [hcur, List.take_zero, List.nil_append, Nat.zero_add]
      apply List.ext_getElem?
      intro i
      by_cases hi : i < M
      · rw [rowOf_get _ _ _ hi, List.getElem?_append]
        by_cases hin : i < n
        · rw [if_pos (by rw [rowOf_length]; exact hin), rowOf_get _ _ _ hin, if_pos hin]
        · rw [if_neg (by rw [rowOf_length]; exact hin), rowOf_length, List.getElem?_drop, rowOf_get _ _ _ (by omega), if_neg hin, show n + (i - n) = i by omega]
      · rw [List.getElem?_eq_none (by simp [rowOf_length]; omega), List.getElem?_eq_none (by simp [rowOf_length]; omega)]
    rw [hrow] at hr
    refine ⟨_, hr, ⟨by rw [rowOf_length, Nat.mul_one], .inr ⟨g, M, _, rfl, hB, setRow_heap w1 g _ _ _ _ hg, Nat.le_refl _, hc, by simp [rowOf_length], by rw [Nat.mul_one]; exact List.take_of_length_le (by simp [rowOf_length])⟩⟩, below_setRow hb hB _⟩
end Go.Proofs.Ytbblohjldkpcnab
