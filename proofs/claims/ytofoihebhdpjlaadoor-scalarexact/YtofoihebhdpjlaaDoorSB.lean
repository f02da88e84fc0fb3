/- Numbers of 64 bytes. -/
import Derived.Test.YtofoihebhdpjlaaDoorS0
namespace Go.Proofs.YtofoihebhdpjlaaDoor
open Go.RowKit
/-- Sixty-four bytes. -/
def B64 (f : Nat → Nat) : Array Value := ((List.range 64).map fun i => Value.int .u8 (f i : Int)).toArray
theorem B64_size (f : Nat → Nat) : (B64 f).size = 64 := by unfold B64; simp
theorem B64_at (f : Nat → Nat) (i : Nat) (h : i < 64) : (B64 f)[i]? = some (.int .u8 (f i : Int)) := by
  unfold B64; simp [h]
theorem B64_ext {f g : Nat → Nat} (h : ∀ i, i < 64 → f i = g i) : B64 f = B64 g := by
  apply Array.ext_getElem?
  intro i
  by_cases hi : i < 64
  · rw [B64_at f i hi, B64_at g i hi, h i hi]
  · rw [Array.getElem?_eq_none (by rw [B64_size]; omega), Array.getElem?_eq_none (by rw [B64_size]; omega)]
theorem B64_set (f : Nat → Nat) (k x : Nat) (hk : k < 64) : (B64 f).setIfInBounds k (.int .u8 (x : Int)) = B64 (upd f k x) := by
  apply Array.ext_getElem?
  intro i
  by_cases hi : i < 64
  · by_cases e : i = k
    · subst e
      rw [Array.getElem?_setIfInBounds_self_of_lt (by rw [B64_size]; omega), B64_at _ i hi, upd_same]
    · rw [Array.getElem?_setIfInBounds_ne (Ne.symm e), B64_at _ i hi, B64_at _ i hi, upd_other _ _ _ _ e]
  · rw [Array.getElem?_eq_none (by simp [B64_size]; omega), Array.getElem?_eq_none (by rw [B64_size]; omega)]
theorem B64_one (f : Nat → Nat) : (B64 f).all (·.oneCell') = true := all_oneCell_toArray fun v hv => by
  obtain ⟨i, -, rfl⟩ := List.mem_map.1 hv
  rfl
theorem infoB64 : (Tryd.prog.info? 23).map (·.size) = some 64 := by kernel_rfl
theorem B64_info (f : Nat → Nat) : (Tryd.prog.info? 23).map (·.size) = some (B64 f).size := by rw [infoB64, B64_size]
theorem zeroB64 : (Tryd.prog.info? 23).map (fun i => (i.zero, i.size)) = some (some (.agg (B64 fun _ => 0)), 64) := by kernel_rfl
theorem B64_sizes (f g : Nat → Nat) : (B64 f).size = (B64 g).size := by rw [B64_size, B64_size]
theorem vb64 {n : Nat} (h : n < R512) : vb (bdig n) 64 = n := by rw [vb_bdig, Nat.mod_eq_of_lt (Nat.lt_of_lt_of_le h (by decide))]
end Go.Proofs.YtofoihebhdpjlaaDoor
