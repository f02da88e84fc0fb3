/- What the rows' list gives: the table; arguments of 32 bytes. -/
import Derived.Test.YtaefjbklioljnaaDoorE0
import Derived.Test.YtaefjbklioljnaaDoorF5
import Derived.Test.YtaefjbklioljnaaDoorCards
import Derived.Test.YtaefjbklioljnaaDoorTie
import Derived.ProofKit
import Derived.OpenShut
import Derived.ChangeOld
import Derived.Deep.DeepHandedRow
import Derived.Lib.LaidTab
import Derived.LaidSub
namespace Go.Proofs.YtaefjbklioljnaaDoor
open Go.ChangeShapes Go.WideShapes Go.ChangeAt Go.RowKit

theorem own : ownKnob Tryd.prog.godebug = none := by kernel_rfl
theorem laidOut : laidOutB Tryd.prog = true := by kernel_rfl
theorem cellsB32 : Tryd.prog.cellsOf 22 = 32 := by kernel_rfl
theorem cellsU8 : Tryd.prog.cellsOf 5 = 1 := by kernel_rfl
theorem cellsFN : Tryd.prog.cellsOf 46 = 4 := by kernel_rfl
theorem cellsU64 : Tryd.prog.cellsOf 23 = 1 := by kernel_rfl
theorem list4 {α : Type} {l : List α} (h : l.length = 4) : ∃ a b c d, l = [a, b, c, d] := by
  match l, h with
  | [a, b, c, d], _ => exact ⟨a, b, c, d, rfl⟩
/-- A number that is listed: its cells. -/
theorem num_listed {W : World} {name : String} {a b c d : Int} {rest : List (String × DataW Unit)} {g : Nat} (hg : Tryd.prog.globalNamed name = some g) (hty : (Tryd.prog.globals[g]?).map (·.type) = some 46)
    (h : laidMet Tryd.prog ((name, .agg [.lit (.int .u64 a), .lit (.int .u64 b), .lit (.int .u64 c), .lit (.int .u64 d)]) :: rest) W) :
    W.var? Tryd.prog name = some #[.int .u64 a, .int .u64 b, .int .u64 c, .int .u64 d] := by
  obtain ⟨ps, ⟨g', t', cs, fuel, p, q, hg', ht', hvar, hd, _, _⟩, _⟩ := h
  obtain rfl := Option.some.inj (hg.symm.trans hg')
  obtain rfl := Option.some.inj (hty.symm.trans ht')
  obtain ⟨xs, n, -, hx, hl, hxl, hf⟩ := DataW.trod_struct Tryd.underlying46 hd
  rw [cellsFN] at hl
  obtain ⟨c0, c1, c2, c3, e⟩ := list4 hl
  obtain ⟨x0, x1, x2, x3, rfl⟩ := list4 hxl
  have h0 : DataW.trod (fun _ => ()) Tryd.prog W 0 (fun _ => true) false n 23 (List.take (Tryd.prog.cellsOf 23) (List.drop 0 cs.toList)) = [x0, x1, x2, x3][0]? := hf 0 _ rfl
  have h1 : DataW.trod (fun _ => ()) Tryd.prog W 0 (fun _ => true) false n 23 (List.take (Tryd.prog.cellsOf 23) (List.drop 1 cs.toList)) = [x0, x1, x2, x3][1]? := hf 1 _ rfl
  have h2 : DataW.trod (fun _ => ()) Tryd.prog W 0 (fun _ => true) false n 23 (List.take (Tryd.prog.cellsOf 23) (List.drop 2 cs.toList)) = [x0, x1, x2, x3][2]? := hf 2 _ rfl
  have h3 : DataW.trod (fun _ => ()) Tryd.prog W 0 (fun _ => true) false n 23 (List.take (Tryd.prog.cellsOf 23) (List.drop 3 cs.toList)) = [x0, x1, x2, x3][3]? := hf 3 _ rfl
  rw [e] at h0 h1 h2 h3
  rw [cellsU64] at h0 h1 h2 h3
  obtain ⟨n0, hn0, rfl, -⟩ := DataW.trod_int Tryd.underlying23 h0
  obtain ⟨n1, hn1, rfl, -⟩ := DataW.trod_int Tryd.underlying23 h1
  obtain ⟨n2, hn2, rfl, -⟩ := DataW.trod_int Tryd.underlying23 h2
  obtain ⟨n3, hn3, rfl, -⟩ := DataW.trod_int Tryd.underlying23 h3
  simp at hx hn0 hn1 hn2 hn3
  obtain ⟨⟨rfl, rfl, rfl, rfl⟩, -⟩ := hx
  rw [hvar]
  have : cs = cs.toList.toArray := rfl
  rw [this, e, hn0, hn1, hn2, hn3]
theorem gPrime : Tryd.prog.globalNamed "codicil/field.prime" = some 1 := by kernel_rfl
theorem gPrimeType : (Tryd.prog.globals[1]?).map (·.type) = some 46 := by kernel_rfl
theorem tp_of {W : World} {rest : List (String × DataW Unit)} (h : laidMet Tryd.prog (("codicil/field.prime", Rows.laid_codicil_field_prime) :: rest) W) : TP W := by
  have hv := num_listed gPrime gPrimeType h
  have c := World.var?_cell gPrime hv
  have c0 := c 0
  have c1 := c 1
  have c2 := c 2
  have c3 := c 3
  exact ⟨World.block_lt_of_cell? W _ c0, c0, c1, c2, c3⟩
/-- The bytes of a row of cells. -/
def byteOf : Value → Nat
  | .int .u8 n => n.toNat
  | _ => 0
/-- An argument of 32 bytes is a number's. -/
theorem open_b32 {H : Type} {enc : TypeId × Value → H} {W : World} {r : Reach} {b0 base : Nat} {spare : Nat → Bool} {held : Bool} {v : Value} {d : DataW H} {p : List MemPlace}
    (hval : Value.okWide Tryd.prog W r b0 22 v) (h : DataW.Trod enc Tryd.prog W base spare held 22 v d p) : ∃ n, n < R256 ∧ v = .agg (B32 (bdig n)) := by
  unfold Value.okWide at hval
  rw [Tryd.underlying22] at hval
  obtain ⟨cs, rfl, hsz, -⟩ := hval
  rw [cellsB32] at hsz
  obtain ⟨fuel, hf⟩ := h
  obtain ⟨xs, m, -, -, -, hxl, hx⟩ := DataW.trod_array Tryd.underlying22 hf
  rw [cellsU8] at hx
  have hc : ∀ i, i < 32 → ∃ k : Nat, k < 256 ∧ cs[i]? = some (.int .u8 (k : Int)) := fun i hi => by
    have h1 := hx i hi
    rw [List.getElem?_eq_getElem (by omega)] at h1
    obtain ⟨n, hn, -, hw⟩ := DataW.trod_int Tryd.underlying5 h1
    have hb := bounds_u8 hw
    rw [Nat.mul_one] at hn
    have hi' : i < cs.size := by omega
    have h2 : cs[i]? = some (.int .u8 n) := by
      have := congrArg (·[0]?) hn
      simp only [Value.cells, List.getElem?_take, List.getElem?_drop] at this
      simpa using this
    exact ⟨n.toNat, by omega, by rw [h2, Int.toNat_of_nonneg hb.1]⟩
  have hf : cs = B32 fun i => byteOf (cs.getD i undef) := by
    apply Array.ext_getElem?
    intro i
    by_cases hi : i < 32
    · obtain ⟨k, hk, e⟩ := hc i hi
      rw [B32_at _ i hi, e]
      simp [Array.getD_eq_getD_getElem?, e, byteOf]
    · rw [Array.getElem?_eq_none (by omega), Array.getElem?_eq_none (by rw [B32_size]; omega)]
  have hlt : ∀ i, i < 32 → byteOf (cs.getD i undef) < 256 := fun i hi => by
    obtain ⟨k, hk, e⟩ := hc i hi
    simp [Array.getD_eq_getD_getElem?, e, byteOf]; exact hk
  refine ⟨vb (fun i => byteOf (cs.getD i undef)) 32, vb_lt _ 32 hlt, ?_⟩
  conv => lhs; rw [hf]
  rw [B32_ext fun i hi => (bdig_vb _ 32 hlt i hi).symm]
end Go.Proofs.YtaefjbklioljnaaDoor
