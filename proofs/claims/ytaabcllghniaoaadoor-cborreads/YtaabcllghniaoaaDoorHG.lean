/- The page's Get at any place. -/
import Derived.Test.YtaabcllghniaoaaDoorHB3
import Derived.Test.YtaabcllghniaoaaDoorHG0
namespace Go.Proofs.YtaabcllghniaoaaDoor
open Go Go.RowKit
theorem pget_is {a : Option Addr} {cap : Nat} {m : List Int} (x : Int) {w : World} (hm : Txt w a cap m) (hl : m.length ≤ 1000000) : Calls Tryd.prog 34 #[.slice a m.length cap, .int .i64 x] w fun e w' => e = .returned (got (hgetR m x)) ∧ Below w.heap.size w w' := by
  by_cases h : x < 0 ∨ (m.length : Int) ≤ x
  · refine (pget_end hm hl h).mono ?_
    rintro e w' ⟨rfl, rfl⟩
    refine ⟨?_, Below.refl _ _⟩
    have e : hgetR m x = (0, 0, 0, if x = (m.length : Int) then 3 else 1) := by
      unfold hgetR
      by_cases hx : x = (m.length : Int)
      · subst hx
        rw [if_neg (by omega), if_pos rfl, Int.toNat_natCast, List.drop_length]
        rfl
      · rw [if_pos (by omega), if_neg hx]
    rw [e]
    rfl
  · obtain ⟨q, rfl⟩ := Int.eq_ofNat_of_zero_le (show 0 ≤ x by omega)
    have hq : q < m.length := by omega
    have hb := hm.1.2.2.2.1 _ (getD_mem hq)
    exact pget_in hm hl hq (c := (m.getD q 0).toNat) (Int.toNat_of_nonneg hb.1).symm
end Go.Proofs.YtaabcllghniaoaaDoor
