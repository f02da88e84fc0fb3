/- What the rows' list gives: the table; arguments of 32 bytes. -/
import Derived.Test.YtgibllaifnnfkaaDoorEA
import Derived.Test.YtgibllaifnnfkaaDoorFA
import Derived.Test.YtgibllaifnnfkaaDoorCards
import Derived.Test.YtgibllaifnnfkaaDoorTie
import Derived.ProofKit
import Derived.OpenShut
import Derived.ChangeOld
import Derived.Deep.DeepHandedRow
import Derived.Lib.LaidTab
import Derived.LaidSub
import Derived.Test.YtgibllaifnnfkaaDoorF12
import Derived.Test.YtgibllaifnnfkaaDoorGA
namespace Go.Proofs.YtgibllaifnnfkaaDoor
open Go.ChangeShapes Go.WideShapes Go.ChangeAt Go.RowKit

theorem own : ownKnob Tryd.prog.godebug = none := by kernel_rfl
theorem laidOut : laidOutB Tryd.prog = true := by kernel_rfl
theorem cellsB32 : Tryd.prog.cellsOf 22 = 32 := by kernel_rfl
theorem cellsU8 : Tryd.prog.cellsOf 5 = 1 := by kernel_rfl
theorem cellsFN : Tryd.prog.cellsOf 97 = 4 := by kernel_rfl
theorem cellsU64 : Tryd.prog.cellsOf 57 = 1 := by kernel_rfl
theorem list4 {α : Type} {l : List α} (h : l.length = 4) : ∃ a b c d, l = [a, b, c, d] := by
  match l, h with
  | [a, b, c, d], _ => exact ⟨a, b, c, d, rfl⟩
/-- A number that is listed: its cells. -/
theorem num_listed {W : World} {name : String} {a b c d : Int} {rest : List (String × DataW Unit)} {g : Nat} (hg : Tryd.prog.globalNamed name = some g) (hty : (Tryd.prog.globals[g]?).map (·.type) = some 97)
    (h : laidMet Tryd.prog ((name, .agg [.lit (.int .u64 a), .lit (.int .u64 b), .lit (.int .u64 c), .lit (.int .u64 d)]) :: rest) W) :
    W.var? Tryd.prog name = some #[.int .u64 a, .int .u64 b, .int .u64 c, .int .u64 d] := by
  obtain ⟨ps, ⟨g', t', cs, fuel, p, q, hg', ht', hvar, hd, _, _⟩, _⟩ := h
  obtain rfl := Option.some.inj (hg.symm.trans hg')
  obtain rfl := Option.some.inj (hty.symm.trans ht')
  obtain ⟨xs, n, -, hx, hl, hxl, hf⟩ := DataW.trod_struct Tryd.underlying97 hd
  rw [cellsFN] at hl
  obtain ⟨c0, c1, c2, c3, e⟩ := list4 hl
  obtain ⟨x0, x1, x2, x3, rfl⟩ := list4 hxl
  have h0 : DataW.trod (fun _ => ()) Tryd.prog W 0 (fun _ => true) false n 57 (List.take (Tryd.prog.cellsOf 57) (List.drop 0 cs.toList)) = [x0, x1, x2, x3][0]? := hf 0 _ rfl
  have h1 : DataW.trod (fun _ => ()) Tryd.prog W 0 (fun _ => true) false n 57 (List.take (Tryd.prog.cellsOf 57) (List.drop 1 cs.toList)) = [x0, x1, x2, x3][1]? := hf 1 _ rfl
  have h2 : DataW.trod (fun _ => ()) Tryd.prog W 0 (fun _ => true) false n 57 (List.take (Tryd.prog.cellsOf 57) (List.drop 2 cs.toList)) = [x0, x1, x2, x3][2]? := hf 2 _ rfl
  have h3 : DataW.trod (fun _ => ()) Tryd.prog W 0 (fun _ => true) false n 57 (List.take (Tryd.prog.cellsOf 57) (List.drop 3 cs.toList)) = [x0, x1, x2, x3][3]? := hf 3 _ rfl
  rw [e] at h0 h1 h2 h3
  rw [cellsU64] at h0 h1 h2 h3
  obtain ⟨n0, hn0, rfl, -⟩ := DataW.trod_int Tryd.underlying57 h0
  obtain ⟨n1, hn1, rfl, -⟩ := DataW.trod_int Tryd.underlying57 h1
  obtain ⟨n2, hn2, rfl, -⟩ := DataW.trod_int Tryd.underlying57 h2
  obtain ⟨n3, hn3, rfl, -⟩ := DataW.trod_int Tryd.underlying57 h3
  simp at hx hn0 hn1 hn2 hn3
  obtain ⟨⟨rfl, rfl, rfl, rfl⟩, -⟩ := hx
  rw [hvar]
  have : cs = cs.toList.toArray := rfl
  rw [this, e, hn0, hn1, hn2, hn3]
theorem gPrime : Tryd.prog.globalNamed "codicil/field.prime" = some 9 := by kernel_rfl
theorem gPrimeType : (Tryd.prog.globals[9]?).map (·.type) = some 97 := by kernel_rfl
theorem tp_of {W : World} {rest : List (String × DataW Unit)} (h : laidMet Tryd.prog (("codicil/field.prime", Rows.laid_codicil_field_prime) :: rest) W) : TP W := by
  have hv := num_listed gPrime gPrimeType h
  have c := World.var?_cell gPrime hv
  have c0 := c 0
  have c1 := c 1
  have c2 := c 2
  have c3 := c 3
  exact ⟨World.block_lt_of_cell? W _ c0, c0, c1, c2, c3⟩
/-- The bytes of a row of cells. -/
def byteOf : Value → Nat
  | .int .u8 n => n.toNat
  | _ => 0
set_option maxRecDepth 100000 in
theorem open_b32 {H : Type} {enc : TypeId × Value → H} {W : World} {r : Reach} {b0 base : Nat} {spare : Nat → Bool} {held : Bool} {v : Value} {d : DataW H} {p : List MemPlace}
    (hval : Value.okWide Tryd.prog W r b0 22 v) (h : DataW.Trod enc Tryd.prog W base spare held 22 v d p) : ∃ n, n < R256 ∧ v = .agg (B32 (bdig n)) := by
  unfold Value.okWide at hval
  rw [Tryd.underlying22] at hval
  obtain ⟨cs, rfl, hsz, -⟩ := hval
  rw [cellsB32] at hsz
  obtain ⟨fuel, hf⟩ := h
  obtain ⟨xs, m, -, -, -, hxl, hx⟩ := DataW.trod_array Tryd.underlying22 hf
  rw [cellsU8] at hx
  have hc : ∀ i, i < 32 → ∃ k : Nat, k < 256 ∧ cs[i]? = some (.int .u8 (k : Int)) := fun i hi => by
    have h1 := hx i hi
    rw [List.getElem?_eq_getElem (by omega)] at h1
    obtain ⟨n, hn, -, hw⟩ := DataW.trod_int Tryd.underlying5 h1
    have hb := bounds_u8 hw
    rw [Nat.mul_one] at hn
    have hi' : i < cs.size := by omega
    have h2 : cs[i]? = some (.int .u8 n) := by
      have := congrArg (·[0]?) hn
      simp only [Value.cells, List.getElem?_take, List.getElem?_drop] at this
      simpa using this
    exact ⟨n.toNat, by omega, by rw [h2, Int.toNat_of_nonneg hb.1]⟩
  have hf : cs = B32 fun i => byteOf (cs.getD i undef) := by
    apply Array.ext_getElem?
    intro i
    by_cases hi : i < 32
    · obtain ⟨k, hk, e⟩ := hc i hi
      rw [B32_at _ i hi, e]
      simp [Array.getD_eq_getD_getElem?, e, byteOf]
    · rw [Array.getElem?_eq_none (by omega), Array.getElem?_eq_none (by rw [B32_size]; omega)]
  have hlt : ∀ i, i < 32 → byteOf (cs.getD i undef) < 256 := fun i hi => by
    obtain ⟨k, hk, e⟩ := hc i hi
    simp [Array.getD_eq_getD_getElem?, e, byteOf]; exact hk
  refine ⟨vb (fun i => byteOf (cs.getD i undef)) 32, vb_lt _ 32 hlt, ?_⟩
  conv => lhs; rw [hf]
  rw [B32_ext fun i hi => (bdig_vb _ 32 hlt i hi).symm]
end Go.Proofs.YtgibllaifnnfkaaDoor
/- What the rows' list gives of the program's turn. -/
namespace Go.Proofs.YtgibllaifnnfkaaDoor
open Go.ChangeShapes Go.WideShapes Go.ChangeAt Go.RowKit
theorem gTurn : Tryd.prog.globalNamed "codicil/field.turn" = some 8 := by kernel_rfl
theorem gTurnType : (Tryd.prog.globals[8]?).map (·.type) = some 97 := by kernel_rfl
theorem tt_of {W : World} (h : laidMet Tryd.prog [("codicil/field.prime", Rows.laid_codicil_field_prime), ("codicil/field.turn", Rows.laid_codicil_field_turn)] W) : TT W := by
  have h2 : laidMet Tryd.prog [("codicil/field.turn", Rows.laid_codicil_field_turn)] W := laidMet.filter (fun p => p.1 == "codicil/field.turn") h
  have hv := num_listed gTurn gTurnType h2
  have c := World.var?_cell gTurn hv
  have c0 := c 0
  have c1 := c 1
  have c2 := c 2
  have c3 := c 3
  exact ⟨World.block_lt_of_cell? W _ c0, c0, c1, c2, c3⟩
end Go.Proofs.YtgibllaifnnfkaaDoor
/- What the rows' list gives of the program's tables. -/
namespace Go.Proofs.YtgibllaifnnfkaaDoor
open Go Go.ChangeShapes Go.WideShapes Go.ChangeAt Go.RowKit
/-- 32 bytes, as a list of what is told. -/
def d32 (f : Nat → Nat) : DataW Unit := .agg ((List.range 32).map fun i => .lit (.int .u8 (f i : Int)))
theorem bytes_trod {W : World} {spare : Nat → Bool} {held : Bool} {base fuel : Nat} {cs : List Value} {f : Nat → Nat} {p : List MemPlace} (h : DataW.trod (fun _ => ()) Tryd.prog W base spare held fuel 22 cs = some (d32 f, p)) : ∀ i, i < 32 → cs[i]? = some (.int .u8 (f i : Int)) := fun i hi => by
  obtain ⟨xs, m, -, hx, hl, hxl, hf⟩ := DataW.trod_array Tryd.underlying22 h
  rw [cellsU8] at hf
  rw [cellsB32] at hl
  have h1 := hf i hi
  rw [List.getElem?_eq_getElem (by omega)] at h1
  obtain ⟨n, hn, hy, -⟩ := DataW.trod_int Tryd.underlying5 h1
  have e : d32 f = .agg (xs.map (·.1)) := congrArg Prod.fst hx
  unfold d32 at e
  simp only [DataW.agg.injEq] at e
  have e2 := congrArg (·[i]?) e
  simp only [List.getElem?_map, List.getElem?_range hi, Option.map_some, List.getElem?_eq_getElem (show i < xs.length by omega), hy, Option.some.injEq, DataW.lit.injEq, Lit.int.injEq, true_and] at e2
  have h2 := congrArg (·[0]?) hn
  rw [Nat.mul_one] at h2
  simp only [List.getElem?_take, List.getElem?_drop] at h2
  rw [e2]
  simpa using h2
theorem laid_one {W : World} {name : String} {d : DataW Unit} {rest : List (String × DataW Unit)} {g : Nat} {ty : TypeId} (hg : Tryd.prog.globalNamed name = some g) (hty : (Tryd.prog.globals[g]?).map (·.type) = some ty) (h : laidMet Tryd.prog ((name, d) :: rest) W) :
    ∃ (cs : Array Value) (fuel : Nat) (p : List MemPlace), W.var? Tryd.prog name = some cs ∧ DataW.trod (fun _ => ()) Tryd.prog W 0 (fun _ => true) false fuel ty cs.toList = some (d, p) := by
  obtain ⟨ps, ⟨g', t', cs, fuel, p, q, hg', ht', hvar, hd, _, _⟩, _⟩ := h
  obtain rfl := Option.some.inj (hg.symm.trans hg')
  obtain rfl := Option.some.inj (hty.symm.trans ht')
  exact ⟨cs, fuel, p, hvar, hd⟩
theorem gD : Tryd.prog.globalNamed "codicil/curve.d" = some 4 := by kernel_rfl
theorem gDT : (Tryd.prog.globals[4]?).map (·.type) = some 22 := by kernel_rfl
theorem gN : Tryd.prog.globalNamed "codicil/curve.nought" = some 3 := by kernel_rfl
theorem gNT : (Tryd.prog.globals[3]?).map (·.type) = some 55 := by kernel_rfl
theorem gB : Tryd.prog.globalNamed "codicil/curve.base" = some 0 := by kernel_rfl
theorem gBT : (Tryd.prog.globals[0]?).map (·.type) = some 55 := by kernel_rfl
theorem lD : (Rows.laid_codicil_curve_d : DataW Unit) = d32 (bdig dd) := by kernel_rfl
theorem lN : (Rows.laid_codicil_curve_nought : DataW Unit) = .agg [d32 (bdig 0), d32 (bdig 1), d32 (bdig 1)] := by kernel_rfl
theorem lB : (Rows.laid_codicil_curve_base : DataW Unit) = .agg [d32 (bdig bxN), d32 (bdig byN), d32 (bdig 1)] := by kernel_rfl
theorem list3 {α : Type} {l : List α} (h : l.length = 3) : ∃ a b c, l = [a, b, c] := by
  match l, h with
  | [a, b, c], _ => exact ⟨a, b, c, rfl⟩
theorem point_trod {W : World} {spare : Nat → Bool} {held : Bool} {base fuel : Nat} {cs : List Value} {X Y Z : Nat} {p : List MemPlace} (h : DataW.trod (fun _ => ()) Tryd.prog W base spare held fuel 55 cs = some (.agg [d32 (bdig X), d32 (bdig Y), d32 (bdig Z)], p)) : ∀ i, i < 96 → cs[i]? = some (.int .u8 (t3 ⟨X, Y, Z⟩ i : Int)) := fun i hi => by
  obtain ⟨xs, n, -, hx, hl, hxl, hf⟩ := DataW.trod_struct Tryd.underlying55 h
  obtain ⟨x0, x1, x2, rfl⟩ := list3 hxl
  have e : DataW.agg [d32 (bdig X), d32 (bdig Y), d32 (bdig Z)] = .agg [x0.1, x1.1, x2.1] := congrArg Prod.fst hx
  simp only [DataW.agg.injEq, List.cons.injEq, and_true] at e
  obtain ⟨e0, e1, e2⟩ := e
  have h0 : DataW.trod (fun _ => ()) Tryd.prog W base spare held n 22 (List.take (Tryd.prog.cellsOf 22) (List.drop 0 cs)) = some x0 := hf 0 _ rfl
  have h1 : DataW.trod (fun _ => ()) Tryd.prog W base spare held n 22 (List.take (Tryd.prog.cellsOf 22) (List.drop 32 cs)) = some x1 := hf 1 _ rfl
  have h2 : DataW.trod (fun _ => ()) Tryd.prog W base spare held n 22 (List.take (Tryd.prog.cellsOf 22) (List.drop 64 cs)) = some x2 := hf 2 _ rfl
  rw [cellsB32] at h0 h1 h2
  obtain ⟨a0, b0⟩ := x0
  obtain ⟨a1, b1⟩ := x1
  obtain ⟨a2, b2⟩ := x2
  simp only at e0 e1 e2
  subst e0 e1 e2
  by_cases k2 : 64 ≤ i
  · obtain ⟨j, rfl⟩ : ∃ j, i = 32 * 2 + j := ⟨i - 64, by omega⟩
    have := bytes_trod h2 j (by omega)
    rw [List.getElem?_take, if_pos (by omega), List.getElem?_drop] at this
    rw [t3_at _ 2 j (by omega)]
    exact this
  · by_cases k1 : 32 ≤ i
    · obtain ⟨j, rfl⟩ : ∃ j, i = 32 * 1 + j := ⟨i - 32, by omega⟩
      have := bytes_trod h1 j (by omega)
      rw [List.getElem?_take, if_pos (by omega), List.getElem?_drop] at this
      rw [t3_at _ 1 j (by omega)]
      exact this
    · obtain ⟨j, rfl⟩ : ∃ j, i = 32 * 0 + j := ⟨i, by omega⟩
      have := bytes_trod h0 j (by omega)
      rw [List.getElem?_take, if_pos (by omega), List.getElem?_drop] at this
      rw [t3_at _ 0 j (by omega)]
      rw [show 32 * 0 + j = 0 + j by omega]
      exact this
theorem range_of {W : World} {name : String} {g n : Nat} {cs : Array Value} {f : Nat → Nat} (hg : Tryd.prog.globalNamed name = some g) (hv : W.var? Tryd.prog name = some cs) (hn : 0 < n) (h : ∀ i, i < n → cs.toList[i]? = some (.int .u8 (f i : Int))) : g < W.heap.size ∧ W.rangeAt g 0 (BN n f).toList := by
  have c := World.var?_cell hg hv
  refine ⟨World.block_lt_of_cell? W _ ((c 0).trans (by have := h 0 hn; rw [Array.getElem?_toList] at this; exact this)), fun j v hj => ?_⟩
  obtain ⟨hlt, rfl⟩ := BN_toList_at hj
  rw [Nat.zero_add, c j]
  have := h j hlt
  rwa [Array.getElem?_toList] at this
theorem tc_of {W : World} (h : laidMet Tryd.prog [("codicil/field.prime", Rows.laid_codicil_field_prime), ("codicil/field.turn", Rows.laid_codicil_field_turn), ("codicil/curve.nought", Rows.laid_codicil_curve_nought), ("codicil/curve.base", Rows.laid_codicil_curve_base), ("codicil/curve.d", Rows.laid_codicil_curve_d)] W) : TC W := by
  have h2 : laidMet Tryd.prog [("codicil/field.prime", Rows.laid_codicil_field_prime), ("codicil/field.turn", Rows.laid_codicil_field_turn)] W := laidMet.filter (fun p => p.1 == "codicil/field.prime" || p.1 == "codicil/field.turn") h
  have hd : laidMet Tryd.prog [("codicil/curve.d", Rows.laid_codicil_curve_d)] W := laidMet.filter (fun p => p.1 == "codicil/curve.d") h
  have hn : laidMet Tryd.prog [("codicil/curve.nought", Rows.laid_codicil_curve_nought)] W := laidMet.filter (fun p => p.1 == "codicil/curve.nought") h
  have hb : laidMet Tryd.prog [("codicil/curve.base", Rows.laid_codicil_curve_base)] W := laidMet.filter (fun p => p.1 == "codicil/curve.base") h
  obtain ⟨c1, f1, p1, v1, t1⟩ := laid_one gD gDT hd
  obtain ⟨c2, f2, p2, v2, t2⟩ := laid_one gN gNT hn
  obtain ⟨c3, f3, p3, v3, t3⟩ := laid_one gB gBT hb
  rw [lD] at t1
  rw [lN] at t2
  rw [lB] at t3
  obtain ⟨l1, r1⟩ := range_of gD v1 (by decide) (bytes_trod t1)
  obtain ⟨l2, r2⟩ := range_of gN v2 (by decide) (point_trod t2)
  obtain ⟨l3, r3⟩ := range_of gB v3 (by decide) (point_trod t3)
  exact ⟨tp_of h2, tt_of h2, l1, r1, l2, r2, l3, r3⟩
end Go.Proofs.YtgibllaifnnfkaaDoor
