/- What the rows' arguments of 32 bytes are. -/
import Derived.Test.YtofoihebhdpjlaaDoorE0
import Derived.ProofKit
import Derived.OpenShut
import Derived.ChangeOld
import Derived.Deep.DeepHandedRow
import Derived.Lib.LaidTab
import Derived.LaidSub
namespace Go.Proofs.YtofoihebhdpjlaaDoor
open Go.ChangeShapes Go.WideShapes Go.ChangeAt Go.RowKit
theorem own : ownKnob Tryd.prog.godebug = none := by kernel_rfl
theorem laidOut : laidOutB Tryd.prog = true := by kernel_rfl
theorem cellsB32 : Tryd.prog.cellsOf 22 = 32 := by kernel_rfl
theorem cellsU8 : Tryd.prog.cellsOf 5 = 1 := by kernel_rfl
/-- The bytes of a row of cells. -/
def byteOf : Value → Nat
  | .int .u8 n => n.toNat
  | _ => 0
/-- An argument of 32 bytes is a number's. -/
theorem open_b32 {H : Type} {enc : TypeId × Value → H} {W : World} {r : Reach} {b0 base : Nat} {spare : Nat → Bool} {held : Bool} {v : Value} {d : DataW H} {p : List MemPlace}
    (hval : Value.okWide Tryd.prog W r b0 22 v) (h : DataW.Trod enc Tryd.prog W base spare held 22 v d p) : ∃ n, n < R256 ∧ v = .agg (B32 (bdig n)) := by
  unfold Value.okWide at hval
  rw [Tryd.underlying22] at hval
  obtain ⟨cs, rfl, hsz, -⟩ := hval
  rw [cellsB32] at hsz
  obtain ⟨fuel, hf⟩ := h
  obtain ⟨xs, m, -, -, -, hxl, hx⟩ := DataW.trod_array Tryd.underlying22 hf
  rw [cellsU8] at hx
  have hc : ∀ i, i < 32 → ∃ k : Nat, k < 256 ∧ cs[i]? = some (.int .u8 (k : Int)) := fun i hi => by
    have h1 := hx i hi
    rw [List.getElem?_eq_getElem (by omega)] at h1
    obtain ⟨n, hn, -, hw⟩ := DataW.trod_int Tryd.underlying5 h1
    have hb := bounds_u8 hw
    rw [Nat.mul_one] at hn
    have hi' : i < cs.size := by omega
    have h2 : cs[i]? = some (.int .u8 n) := by
      have := congrArg (·[0]?) hn
      simp only [Value.cells, List.getElem?_take, List.getElem?_drop] at this
      simpa using this
    exact ⟨n.toNat, by omega, by rw [h2, Int.toNat_of_nonneg hb.1]⟩
  have hf : cs = B32 fun i => byteOf (cs.getD i undef) := by
    apply Array.ext_getElem?
    intro i
    by_cases hi : i < 32
    · obtain ⟨k, hk, e⟩ := hc i hi
      rw [B32_at _ i hi, e]
      simp [Array.getD_eq_getD_getElem?, e, byteOf]
    · rw [Array.getElem?_eq_none (by omega), Array.getElem?_eq_none (by rw [B32_size]; omega)]
  have hlt : ∀ i, i < 32 → byteOf (cs.getD i undef) < 256 := fun i hi => by
    obtain ⟨k, hk, e⟩ := hc i hi
    simp [Array.getD_eq_getD_getElem?, e, byteOf]; exact hk
  refine ⟨vb (fun i => byteOf (cs.getD i undef)) 32, vb_lt _ 32 hlt, ?_⟩
  conv => lhs; rw [hf]
  rw [B32_ext fun i hi => (bdig_vb _ 32 hlt i hi).symm]
end Go.Proofs.YtofoihebhdpjlaaDoor
