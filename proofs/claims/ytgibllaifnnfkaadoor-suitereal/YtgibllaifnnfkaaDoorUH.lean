/- SHA-256 in numbers. -/
import Derived.Test.YtgibllaifnnfkaaDoorTX
import Derived.Test.YtgibllaifnnfkaaDoorJK3
namespace Go.Proofs.YtgibllaifnnfkaaDoor
open Go Go.RowKit
/-- A text's sum as a number, the lowest byte first. -/
def hn (l : List Int) : Nat := vb (fun i => ((J.digest l).getD i 0).toNat) 32
theorem hdigest_bys (l : List Int) : J.Bys (J.digest l) := fun x hx => by
  unfold J.digest J.sumBytes at hx
  obtain ⟨y, hy0, hy⟩ := List.mem_flatMap.1 hx
  have ho : (J.endSt l).ok := J.stOf_ok _
  have : 0 ≤ y ∧ y < 4294967296 := by
    unfold J.St.ok at ho
    unfold J.stWords at hy0
    simp only [List.mem_cons, List.not_mem_nil, or_false] at hy0
    rcases hy0 with rfl | rfl | rfl | rfl | rfl | rfl | rfl | rfl <;> omega
  exact J.be4_bys y this.1 this.2 x hy
theorem hdigest_at (l : List Int) (i : Nat) : 0 ≤ (J.digest l).getD i 0 ∧ (J.digest l).getD i 0 < 256 := by
  by_cases hi : i < (J.digest l).length
  · have e : (J.digest l).getD i 0 = (J.digest l)[i] := by simp [List.getD, hi]
    rw [e]
    exact hdigest_bys l _ (List.getElem_mem hi)
  · have e : (J.digest l).getD i 0 = 0 := by simp [List.getD, hi]
    rw [e]
    decide
theorem hn_byte (l : List Int) (i : Nat) (hi : i < 32) : (bdig (hn l) i : Int) = (J.digest l).getD i 0 := by
  have hb := hdigest_at l i
  unfold hn
  rw [bdig_vb _ 32 (fun j _ => by have := hdigest_at l j; omega) i hi]
  omega
theorem hn_lt (l : List Int) : hn l < R256 := by
  rw [R256_pow]
  exact vb_lt _ 32 fun i _ => by have := hdigest_at l i; omega
theorem dig_hn (l : List Int) : J.dig l = B32 (bdig (hn l)) := by
  apply Array.ext_getElem?
  intro i
  by_cases hi : i < 32
  · rw [B32_at _ i hi, hn_byte l i hi]
    have hl := J.digest_length l
    have hi' : i < (J.digest l).length := by omega
    simp [J.dig, J.u8s, List.getD, hi']
  · rw [Array.getElem?_eq_none (by rw [J.dig_size]; omega), Array.getElem?_eq_none (by rw [B32_size]; omega)]
theorem by32_hn (l : List Int) : by32 (hn l) = J.digest l := by
  apply List.ext_getElem?
  intro i
  have hl := J.digest_length l
  by_cases hi : i < 32
  · have hi' : i < (J.digest l).length := by omega
    simp [by32, hi, hn_byte l i hi, List.getD, hi']
  · rw [List.getElem?_eq_none (by rw [by32_length]; omega), List.getElem?_eq_none (by omega)]
end Go.Proofs.YtgibllaifnnfkaaDoor
