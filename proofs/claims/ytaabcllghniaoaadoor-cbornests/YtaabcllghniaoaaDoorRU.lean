/- What the rows' list gives of UTF-8's tables. -/
import Derived.Test.YtaabcllghniaoaaDoorRN
import Derived.Test.YtaabcllghniaoaaDoorVB
import Derived.Test.YtaabcllghniaoaaDoorCards
import Derived.Test.YtaabcllghniaoaaDoorTie
import Derived.Lib.LaidTab
import Derived.ChangeSame
namespace Go.Proofs.YtaabcllghniaoaaDoor
open Go Go.ChangeShapes Go.WideShapes Go.ChangeAt Go.RowKit
theorem cellsU8 : Tryd.prog.cellsOf 5 = 1 := by kernel_rfl
theorem cellsAcc : Tryd.prog.cellsOf 69 = 2 := by kernel_rfl
theorem cellsT256 : Tryd.prog.cellsOf 67 = 256 := by kernel_rfl
theorem cellsT16 : Tryd.prog.cellsOf 70 = 32 := by kernel_rfl
theorem gFst : Tryd.prog.globalNamed "unicode/utf8.first" = some 0 := by kernel_rfl
theorem gFstT : (Tryd.prog.globals[0]?).map (·.type) = some 67 := by kernel_rfl
theorem gAcc : Tryd.prog.globalNamed "unicode/utf8.acceptRanges" = some 1 := by kernel_rfl
theorem gAccT : (Tryd.prog.globals[1]?).map (·.type) = some 70 := by kernel_rfl
def fstL : List Int := (List.range 256).map fun i => (ufst i : Int)
theorem lFst : (Rows.laid_unicode_utf8_first : DataW Unit) = Lib.tabData .u8 fstL := by kernel_rfl
def accL : List (DataW Unit) := (List.range 16).map fun k => .agg [.lit (.int .u8 (ulo k : Int)), .lit (.int .u8 (uhi k : Int))]
theorem lAcc : (Rows.laid_unicode_utf8_acceptRanges : DataW Unit) = .agg accL := by kernel_rfl
theorem laid_one {W : World} {name : String} {d : DataW Unit} {rest : List (String × DataW Unit)} {g : Nat} {ty : TypeId} (hg : Tryd.prog.globalNamed name = some g) (hty : (Tryd.prog.globals[g]?).map (·.type) = some ty) (h : laidMet Tryd.prog ((name, d) :: rest) W) :
    ∃ (cs : Array Value) (fuel : Nat) (p : List MemPlace), W.var? Tryd.prog name = some cs ∧ DataW.trod (fun _ => ()) Tryd.prog W 0 (fun _ => true) false fuel ty cs.toList = some (d, p) := by
  obtain ⟨ps, ⟨g', t', cs, fuel, p, q, hg', ht', hvar, hd, _, _⟩, _⟩ := h
  obtain rfl := Option.some.inj (hg.symm.trans hg')
  obtain rfl := Option.some.inj (hty.symm.trans ht')
  exact ⟨cs, fuel, p, hvar, hd⟩
theorem acc_cells {W : World} {spare : Nat → Bool} {held : Bool} {base fuel : Nat} {cs : List Value} {p : List MemPlace} (h : DataW.trod (fun _ => ()) Tryd.prog W base spare held fuel 70 cs = some (.agg accL, p)) : ∀ k, k < 16 → cs[2 * k]? = some (.int .u8 (ulo k : Int)) ∧ cs[2 * k + 1]? = some (.int .u8 (uhi k : Int)) := fun k hk => by
  obtain ⟨xs, m, -, hx, hl, hxl, hf⟩ := DataW.trod_array Tryd.underlying70 h
  rw [cellsAcc] at hf
  rw [cellsT16] at hl
  have h1 := hf k hk
  rw [List.getElem?_eq_getElem (by omega)] at h1
  obtain ⟨y0, y1, n, hy, hl2, g0, g1⟩ := ChangeShapes.trod_struct2 Tryd.underlying69 h1
  have e : DataW.agg accL = .agg (xs.map (·.1)) := congrArg Prod.fst hx
  simp only [DataW.agg.injEq] at e
  have e2 := congrArg (·[k]?) e
  simp only [accL, List.getElem?_map, List.getElem?_range hk, Option.map_some, List.getElem?_eq_getElem (show k < xs.length by omega), hy, Option.some.injEq, DataW.agg.injEq, List.cons.injEq, and_true] at e2
  rw [cellsU8] at g0 g1
  obtain ⟨n0, hn0, e0, -⟩ := DataW.trod_int Tryd.underlying5 g0
  obtain ⟨n1, hn1, e1, -⟩ := DataW.trod_int Tryd.underlying5 g1
  rw [e0, e1] at e2
  simp only [DataW.lit.injEq, Lit.int.injEq, true_and] at e2
  obtain ⟨rfl, rfl⟩ := e2
  have a0 := congrArg (·[0]?) hn0
  have a1 := congrArg (·[0]?) hn1
  simp only [List.drop_zero, List.getElem?_take, List.getElem?_drop] at a0 a1
  rw [Nat.mul_comm] at a0 a1
  exact ⟨by simpa using a0, by simpa using a1⟩
theorem tu_of {W : World} (h : laidMet Tryd.prog [("unicode/utf8.acceptRanges", Rows.laid_unicode_utf8_acceptRanges), ("unicode/utf8.first", Rows.laid_unicode_utf8_first)] W) : TU W := by
  have h2 : laidMet Tryd.prog [("unicode/utf8.first", Rows.laid_unicode_utf8_first)] W := laidMet.filter (fun p => p.1 == "unicode/utf8.first") h
  have t0 : Lib.TabIs Tryd.prog W "unicode/utf8.first" .u8 fstL := by
    refine Lib.tabIs_of_head (rest := []) gFst gFstT Tryd.underlying67 Tryd.underlying5 cellsU8 cellsT256 ?_
    rw [← lFst]; exact h2
  have c0 : ∀ i, i < 256 → W.cell? ⟨0, i, none⟩ = some (.int .u8 (ufst i : Int)) := fun i hi => by
    rw [t0.cell gFst i (by simpa [fstL] using hi)]
    simp [fstL, List.getD, hi]
  obtain ⟨cs, fuel, p, hvar, hd⟩ := laid_one gAcc gAccT h
  rw [lAcc] at hd
  have hc := acc_cells hd
  have hcell := World.var?_cell gAcc hvar
  have c1 : ∀ k, k < 16 → W.cell? ⟨1, 2 * k, none⟩ = some (.int .u8 (ulo k : Int)) ∧ W.cell? ⟨1, 2 * k + 1, none⟩ = some (.int .u8 (uhi k : Int)) := fun k hk => by
    obtain ⟨a, b⟩ := hc k hk
    rw [hcell, hcell]
    exact ⟨by simpa using a, by simpa using b⟩
  exact ⟨⟨World.block_lt_of_cell? W _ (c0 0 (by decide)), c0⟩, World.block_lt_of_cell? W _ (c1 0 (by decide)).1, c1⟩
end Go.Proofs.YtaabcllghniaoaaDoor
