/- What the rows' arguments of 64 bytes are. -/
import Derived.Test.YtgibllaifnnfkaaDoorRS
namespace Go.Proofs.YtgibllaifnnfkaaDoor
open Go.ChangeShapes Go.WideShapes Go.ChangeAt Go.RowKit
theorem cellsB64 : Tryd.prog.cellsOf 24 = 64 := by kernel_rfl
theorem vb_lt64 (f : Nat → Nat) (h : ∀ i, i < 64 → f i < 256) : vb f 64 < R512 := by rw [show R512 = 256 ^ 64 by decide]; exact vb_lt f 64 h
set_option maxRecDepth 100000 in
theorem open_b64 {H : Type} {enc : TypeId × Value → H} {W : World} {r : Reach} {b0 base : Nat} {spare : Nat → Bool} {held : Bool} {v : Value} {d : DataW H} {p : List MemPlace}
    (hval : Value.okWide Tryd.prog W r b0 24 v) (h : DataW.Trod enc Tryd.prog W base spare held 24 v d p) : ∃ n, n < R512 ∧ v = .agg (B64 (bdig n)) := by
  unfold Value.okWide at hval
  rw [Tryd.underlying24] at hval
  obtain ⟨cs, rfl, hsz, -⟩ := hval
  rw [cellsB64] at hsz
  obtain ⟨fuel, hf⟩ := h
  obtain ⟨xs, m, -, -, -, hxl, hx⟩ := DataW.trod_array Tryd.underlying24 hf
  rw [cellsU8] at hx
  have hc : ∀ i, i < 64 → ∃ k : Nat, k < 256 ∧ cs[i]? = some (.int .u8 (k : Int)) := fun i hi => by
    have h1 := hx i hi
    rw [List.getElem?_eq_getElem (by omega)] at h1
    obtain ⟨n, hn, -, hw⟩ := DataW.trod_int Tryd.underlying5 h1
    have hb := bounds_u8 hw
    rw [Nat.mul_one] at hn
    have hi' : i < cs.size := by omega
    have h2 : cs[i]? = some (.int .u8 n) := by
      have := congrArg (·[0]?) hn
      simp only [Value.cells, List.getElem?_take, List.getElem?_drop] at this
      simpa using this
    exact ⟨n.toNat, by omega, by rw [h2, Int.toNat_of_nonneg hb.1]⟩
  have hf : cs = B64 fun i => byteOf (cs.getD i undef) := by
    apply Array.ext_getElem?
    intro i
    by_cases hi : i < 64
    · obtain ⟨k, hk, e⟩ := hc i hi
      rw [B64_at _ i hi, e]
      simp [Array.getD_eq_getD_getElem?, e, byteOf]
    · rw [Array.getElem?_eq_none (by omega), Array.getElem?_eq_none (by rw [B64_size]; omega)]
  have hlt : ∀ i, i < 64 → byteOf (cs.getD i undef) < 256 := fun i hi => by
    obtain ⟨k, hk, e⟩ := hc i hi
    simp [Array.getD_eq_getD_getElem?, e, byteOf]; exact hk
  refine ⟨vb (fun i => byteOf (cs.getD i undef)) 64, vb_lt64 _ hlt, ?_⟩
  conv => lhs; rw [hf]
  rw [B64_ext fun i hi => (bdig_vb _ 64 hlt i hi).symm]
end Go.Proofs.YtgibllaifnnfkaaDoor
