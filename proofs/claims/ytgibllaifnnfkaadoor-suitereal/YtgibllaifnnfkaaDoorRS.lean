/- What the rows' list gives: all tables; texts and 64 bytes that came in; what signing leans on is what the contracts say. -/
import Derived.Test.YtgibllaifnnfkaaDoorRA
import Derived.Test.YtgibllaifnnfkaaDoorGC
import Derived.Test.YtgibllaifnnfkaaDoorZ5
import Derived.Test.YtgibllaifnnfkaaDoorSG1
namespace Go.Proofs.YtgibllaifnnfkaaDoor
open Go Go.ChangeShapes Go.WideShapes Go.ChangeAt Go.RowKit
/-- What all of them want of memory. -/
def TS (w : World) : Prop := TC w ∧ TO w ∧ H.Tabs w
theorem low : Low TS where
  keep := fun _ _ h hB => ⟨h.1.keep hB, h.2.1.keep hB, h.2.2.below hB⟩
  wsum := fun a len cap ms w hT hR hn => by rw [← dig_dn]; exact H.sum_any a len cap ms w hR hT.2.2 hn
  swide := fun a ha w hT => swide_fn a ha w hT.2.1
  scheck := fun a ha w hT => scheck_any a ha w hT.2.1
  smuladd := fun a b c ha hb hc w hT => smuladd_any a b c ha hb hc w hT.2.1
  add := fun P Q w hT => crv.add P Q w hT.1
  add_not := fun a b ha hb h w hT => crv.add_not a b ha hb h w hT.1
  mul := fun n hn P w hT => crv.mul n hn P w hT.1
  mul_not := fun n a hn ha h w hT => crv.mul_not n a hn ha h w hT.1
  base := fun n hn w hT => crv.base n hn w hT.1
theorem cellsSN : Tryd.prog.cellsOf 62 = 4 := by kernel_rfl
/-- A number that is listed: its cells. -/
theorem num_listedS {W : World} {name : String} {a b c d : Int} {rest : List (String × DataW Unit)} {g : Nat} (hg : Tryd.prog.globalNamed name = some g) (hty : (Tryd.prog.globals[g]?).map (·.type) = some 62)
    (h : laidMet Tryd.prog ((name, .agg [.lit (.int .u64 a), .lit (.int .u64 b), .lit (.int .u64 c), .lit (.int .u64 d)]) :: rest) W) :
    W.var? Tryd.prog name = some #[.int .u64 a, .int .u64 b, .int .u64 c, .int .u64 d] := by
  obtain ⟨ps, ⟨g', t', cs, fuel, p, q, hg', ht', hvar, hd, _, _⟩, _⟩ := h
  obtain rfl := Option.some.inj (hg.symm.trans hg')
  obtain rfl := Option.some.inj (hty.symm.trans ht')
  obtain ⟨xs, n, -, hx, hl, hxl, hf⟩ := DataW.trod_array Tryd.underlying62 hd
  rw [cellsSN] at hl
  obtain ⟨c0, c1, c2, c3, e⟩ := list4 hl
  obtain ⟨x0, x1, x2, x3, rfl⟩ := list4 hxl
  rw [e, cellsU64] at hf
  have h0 := hf 0 (by decide)
  have h1 := hf 1 (by decide)
  have h2 := hf 2 (by decide)
  have h3 := hf 3 (by decide)
  obtain ⟨n0, hn0, rfl, -⟩ := DataW.trod_int Tryd.underlying57 h0
  obtain ⟨n1, hn1, rfl, -⟩ := DataW.trod_int Tryd.underlying57 h1
  obtain ⟨n2, hn2, rfl, -⟩ := DataW.trod_int Tryd.underlying57 h2
  obtain ⟨n3, hn3, rfl, -⟩ := DataW.trod_int Tryd.underlying57 h3
  simp at hx hn0 hn1 hn2 hn3
  obtain ⟨⟨rfl, rfl, rfl, rfl⟩, -⟩ := hx
  rw [hvar]
  have : cs = cs.toList.toArray := rfl
  rw [this, e, hn0, hn1, hn2, hn3]
theorem gOrder : Tryd.prog.globalNamed "codicil/scalar.order" = some 6 := by kernel_rfl
theorem gOrderType : (Tryd.prog.globals[6]?).map (·.type) = some 62 := by kernel_rfl
theorem to_of {W : World} {rest : List (String × DataW Unit)} (h : laidMet Tryd.prog (("codicil/scalar.order", Rows.laid_codicil_scalar_order) :: rest) W) : TO W := by
  have hv := num_listedS gOrder gOrderType h
  have c := World.var?_cell gOrder hv
  have c0 := c 0
  have c1 := c 1
  have c2 := c 2
  have c3 := c 3
  refine ⟨World.block_lt_of_cell? W _ c0, fun k hk => ?_⟩
  rcases k with _ | _ | _ | _ | k
  · exact c0
  · exact c1
  · exact c2
  · exact c3
  · omega
theorem gStart : Tryd.prog.globalNamed "codicil/wide.start" = some 1 := by kernel_rfl
theorem gStartType : (Tryd.prog.globals[1]?).map (·.type) = some 58 := by kernel_rfl
theorem gRounds : Tryd.prog.globalNamed "codicil/wide.rounds" = some 7 := by kernel_rfl
theorem gRoundsType : (Tryd.prog.globals[7]?).map (·.type) = some 102 := by kernel_rfl
theorem cellsA8 : Tryd.prog.cellsOf 58 = 8 := by kernel_rfl
theorem cellsW80 : Tryd.prog.cellsOf 102 = 80 := by kernel_rfl
theorem start_data : (Rows.laid_codicil_wide_start : DataW Unit) = Lib.tabData .u64 (H.stWords H.start) := rfl
theorem rounds_data : (Rows.laid_codicil_wide_rounds : DataW Unit) = Lib.tabData .u64 H.kays := rfl
theorem tabs_of {W : World} (h0 : laidMet Tryd.prog [("codicil/wide.start", Rows.laid_codicil_wide_start)] W) (h1 : laidMet Tryd.prog [("codicil/wide.rounds", Rows.laid_codicil_wide_rounds)] W) : H.Tabs W := by
  have t0 : Lib.TabIs Tryd.prog W "codicil/wide.start" .u64 (H.stWords H.start) := by
    refine Lib.tabIs_of_head (rest := []) gStart gStartType Tryd.underlying58 Tryd.underlying57 cellsU64 cellsA8 ?_
    rw [← start_data]; exact h0
  have t1 : Lib.TabIs Tryd.prog W "codicil/wide.rounds" .u64 H.kays := by
    refine Lib.tabIs_of_head (rest := []) gRounds gRoundsType Tryd.underlying102 Tryd.underlying57 cellsU64 cellsW80 ?_
    rw [← rounds_data]; exact h1
  have c0 := fun i hi => t0.cell gStart i hi
  have c1 := fun i hi => t1.cell gRounds i hi
  refine ⟨⟨?_, fun i hi => c1 i hi⟩, ?_, ?_⟩
  · exact World.block_lt_of_cell? W _ (c1 0 (by decide))
  · exact World.block_lt_of_cell? W _ (c0 0 (by decide))
  · intro j v hv
    have hj : j < 8 := by
      have := (List.getElem?_eq_some_iff.1 hv).1
      simpa [H.stArr] using this
    rw [Nat.zero_add, c0 j hj, ← hv]
    rcases j with _ | _ | _ | _ | _ | _ | _ | _ | j
    all_goals first | rfl | omega
theorem ts_of {W : World} (h : laidMet Tryd.prog [("codicil/field.prime", Rows.laid_codicil_field_prime), ("codicil/field.turn", Rows.laid_codicil_field_turn), ("codicil/curve.nought", Rows.laid_codicil_curve_nought), ("codicil/curve.base", Rows.laid_codicil_curve_base), ("codicil/curve.d", Rows.laid_codicil_curve_d), ("codicil/wide.start", Rows.laid_codicil_wide_start), ("codicil/wide.rounds", Rows.laid_codicil_wide_rounds), ("codicil/scalar.order", Rows.laid_codicil_scalar_order)] W) : TS W := by
  have h1 : laidMet Tryd.prog [("codicil/field.prime", Rows.laid_codicil_field_prime), ("codicil/field.turn", Rows.laid_codicil_field_turn), ("codicil/curve.nought", Rows.laid_codicil_curve_nought), ("codicil/curve.base", Rows.laid_codicil_curve_base), ("codicil/curve.d", Rows.laid_codicil_curve_d)] W := laidMet.filter (fun p => p.1 == "codicil/field.prime" || p.1 == "codicil/field.turn" || p.1 == "codicil/curve.nought" || p.1 == "codicil/curve.base" || p.1 == "codicil/curve.d") h
  have h2 : laidMet Tryd.prog [("codicil/scalar.order", Rows.laid_codicil_scalar_order)] W := laidMet.filter (fun p => p.1 == "codicil/scalar.order") h
  have h3 : laidMet Tryd.prog [("codicil/wide.start", Rows.laid_codicil_wide_start)] W := laidMet.filter (fun p => p.1 == "codicil/wide.start") h
  have h4 : laidMet Tryd.prog [("codicil/wide.rounds", Rows.laid_codicil_wide_rounds)] W := laidMet.filter (fun p => p.1 == "codicil/wide.rounds") h
  exact ⟨tc_of h1, to_of h2, tabs_of h3 h4⟩
/-- What the walk is told of a slice of bytes that came in. -/
def IsRow (k : IntKind) (w : World) (a : Option Addr) (len cap : Nat) (zs : List Int) : Prop :=
  (a = none ∧ len = 0 ∧ cap = 0 ∧ zs = []) ∨
  ∃ x, a = some x ∧ len ≤ cap ∧ cap ≤ maxLen ∧ zs.length = cap ∧ (∀ i, i < zs.length → w.cell? (x.add i) = some (.int k (zs.getD i 0))) ∧ ∀ n ∈ zs, (Lit.int k n).wf = true
theorem wf_u8 {n : Int} (h : (Lit.int .u8 n).wf = true) : 0 ≤ n ∧ n < 256 := by
  have := bounds_u8 h; omega
theorem bytesV_of_row {w : World} {a : Option Addr} {len cap : Nat} {zs : List Int} (h : IsRow .u8 w a len cap zs) : H.BytesV w a len cap (zs.take len) := by
  rcases h with ⟨rfl, rfl, rfl, rfl⟩ | ⟨x, rfl, hl, hm, hz, hcell, hwz⟩
  · exact ⟨rfl, Nat.le_refl _, by decide, fun x hx => by simp at hx, fun hp => absurd hp (by decide)⟩
  · refine ⟨by simp; omega, hl, hm, fun x hx => wf_u8 (hwz x (List.mem_of_mem_take hx)), fun hp => ?_⟩
    obtain ⟨b, off, spot⟩ := x
    have hc := hcell 0 (by omega)
    have hspot : spot = none := by simpa [Addr.add] using World.cell?_spot hc
    subst hspot
    refine ⟨b, off, rfl, fun j v hv => ?_⟩
    have hj : j < len := by
      have := (List.getElem?_eq_some_iff.1 hv).1
      simp [H.u8s] at this; omega
    have h1 := hcell j (by omega)
    rw [Addr.add_mid] at h1
    rw [h1, ← hv]
    have hjz : j < zs.length := by omega
    simp [H.u8s, hj, hjz, List.getD]
theorem nil_of_row {w : World} {a : Option Addr} {len cap : Nat} {zs : List Int} (h : IsRow .u8 w a len cap zs) : a = none → cap = 0 := fun e => by
  rcases h with ⟨_, _, h, _⟩ | ⟨x, rfl, _⟩
  · exact h
  · cases e
theorem isRow_of {H : Type} {enc : TypeId × Value → H} {W : World} {base : Nat} {held : Bool} {a : Option Addr} {len cap : Nat} {d : DataW H} {p : List MemPlace}
    (h : DataW.Trod enc Tryd.prog W base (fun _ => true) held 23 (Value.slice a len cap) d p) : ∃ zs, IsRow .u8 W a len cap zs := by
  obtain ⟨fuel, hf⟩ := h
  rcases open_ints Tryd.underlying23 Tryd.underlying5 (by kernel_rfl) hf with ⟨hcs, _⟩ | ⟨x, l, c, zs, hcs, _, hl, hm, hz, _, hcell, hwz⟩
  · simp [Value.cells] at hcs
    obtain ⟨rfl, rfl, rfl⟩ := hcs
    exact ⟨[], .inl ⟨rfl, rfl, rfl, rfl⟩⟩
  · simp [Value.cells] at hcs
    obtain ⟨rfl, rfl, rfl⟩ := hcs
    exact ⟨zs, .inr ⟨_, rfl, hl, hm, by simpa using hz, hcell, hwz⟩⟩

theorem txt_of_row {w : World} {a : Option Addr} {len cap : Nat} {zs : List Int} (h : IsRow .u8 w a len cap zs) : len = (zs.take len).length ∧ Txt w a cap (zs.take len) := by
  have hv := bytesV_of_row h
  have e := hv.1
  exact ⟨e, by rw [← e]; exact hv, nil_of_row h⟩
end Go.Proofs.YtgibllaifnnfkaaDoor
