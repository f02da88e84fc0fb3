/- What the rows' list gives of the program's table L. -/
import Derived.Test.YtofoihebhdpjlaaDoorRB
import Derived.Test.YtofoihebhdpjlaaDoorZ3
import Derived.Test.YtofoihebhdpjlaaDoorCards
import Derived.Test.YtofoihebhdpjlaaDoorTie
namespace Go.Proofs.YtofoihebhdpjlaaDoor
open Go.ChangeShapes Go.WideShapes Go.ChangeAt Go.RowKit
theorem cellsSN : Tryd.prog.cellsOf 50 = 4 := by kernel_rfl
theorem cellsU64 : Tryd.prog.cellsOf 34 = 1 := by kernel_rfl
theorem list4 {α : Type} {l : List α} (h : l.length = 4) : ∃ a b c d, l = [a, b, c, d] := by
  match l, h with
  | [a, b, c, d], _ => exact ⟨a, b, c, d, rfl⟩
/-- A number that is listed: its cells. -/
theorem num_listed {W : World} {name : String} {a b c d : Int} {rest : List (String × DataW Unit)} {g : Nat} (hg : Tryd.prog.globalNamed name = some g) (hty : (Tryd.prog.globals[g]?).map (·.type) = some 50)
    (h : laidMet Tryd.prog ((name, .agg [.lit (.int .u64 a), .lit (.int .u64 b), .lit (.int .u64 c), .lit (.int .u64 d)]) :: rest) W) :
    W.var? Tryd.prog name = some #[.int .u64 a, .int .u64 b, .int .u64 c, .int .u64 d] := by
  obtain ⟨ps, ⟨g', t', cs, fuel, p, q, hg', ht', hvar, hd, _, _⟩, _⟩ := h
  obtain rfl := Option.some.inj (hg.symm.trans hg')
  obtain rfl := Option.some.inj (hty.symm.trans ht')
  obtain ⟨xs, n, -, hx, hl, hxl, hf⟩ := DataW.trod_array Tryd.underlying50 hd
  rw [cellsSN] at hl
  obtain ⟨c0, c1, c2, c3, e⟩ := list4 hl
  obtain ⟨x0, x1, x2, x3, rfl⟩ := list4 hxl
  rw [e, cellsU64] at hf
  have h0 := hf 0 (by decide)
  have h1 := hf 1 (by decide)
  have h2 := hf 2 (by decide)
  have h3 := hf 3 (by decide)
  obtain ⟨n0, hn0, rfl, -⟩ := DataW.trod_int Tryd.underlying34 h0
  obtain ⟨n1, hn1, rfl, -⟩ := DataW.trod_int Tryd.underlying34 h1
  obtain ⟨n2, hn2, rfl, -⟩ := DataW.trod_int Tryd.underlying34 h2
  obtain ⟨n3, hn3, rfl, -⟩ := DataW.trod_int Tryd.underlying34 h3
  simp at hx hn0 hn1 hn2 hn3
  obtain ⟨⟨rfl, rfl, rfl, rfl⟩, -⟩ := hx
  rw [hvar]
  have : cs = cs.toList.toArray := rfl
  rw [this, e, hn0, hn1, hn2, hn3]
theorem gOrder : Tryd.prog.globalNamed "codicil/scalar.order" = some 0 := by kernel_rfl
theorem gOrderType : (Tryd.prog.globals[0]?).map (·.type) = some 50 := by kernel_rfl
theorem to_of {W : World} {rest : List (String × DataW Unit)} (h : laidMet Tryd.prog (("codicil/scalar.order", Rows.laid_codicil_scalar_order) :: rest) W) : TO W := by
  have hv := num_listed gOrder gOrderType h
  have c := World.var?_cell gOrder hv
  have c0 := c 0
  have c1 := c 1
  have c2 := c 2
  have c3 := c 3
  refine ⟨World.block_lt_of_cell? W _ c0, fun k hk => ?_⟩
  rcases k with _ | _ | _ | _ | k
  · exact c0
  · exact c1
  · exact c2
  · exact c3
  · omega
end Go.Proofs.YtofoihebhdpjlaaDoor
