/- Of the texts RX: what the card of this claim reaches. -/
import Derived.Test.YtgibllaifnnfkaaGreatDoorXE23
import Derived.Test.YtgibllaifnnfkaaGreatDoorXE39
namespace Go.Proofs.YtgibllaifnnfkaaGreatDoor
open Go Go.ChangeShapes Go.WideShapes Go.ChangeAt Go.RowKit
theorem gShaStart : Tryz.prog.globalNamed "codicil/sha.start" = some 3 := by kernel_rfl
theorem gShaStartType : (Tryz.prog.globals[3]?).map (·.type) = some 66 := by kernel_rfl
theorem gShaRounds : Tryz.prog.globalNamed "codicil/sha.rounds" = some 5 := by kernel_rfl
theorem gShaRoundsType : (Tryz.prog.globals[5]?).map (·.type) = some 64 := by kernel_rfl
theorem cellsS8 : Tryz.prog.cellsOf 66 = 8 := by kernel_rfl
theorem cellsW64 : Tryz.prog.cellsOf 64 = 64 := by kernel_rfl
theorem cellsU32 : Tryz.prog.cellsOf 63 = 1 := by kernel_rfl
theorem sha_start_data : (Rows.laid_codicil_sha_start : DataW Unit) = Lib.tabData .u32 (J.stWords J.start) := rfl
theorem sha_rounds_data : (Rows.laid_codicil_sha_rounds : DataW Unit) = Lib.tabData .u32 J.kays := rfl
theorem jtabs_of {W : World} (h0 : laidMet Tryz.prog [("codicil/sha.start", Rows.laid_codicil_sha_start)] W) (h1 : laidMet Tryz.prog [("codicil/sha.rounds", Rows.laid_codicil_sha_rounds)] W) : J.Tabs W := by
  have t0 : Lib.TabIs Tryz.prog W "codicil/sha.start" .u32 (J.stWords J.start) := by
    refine Lib.tabIs_of_head (rest := []) gShaStart gShaStartType Tryz.underlying66 Tryz.underlying63 cellsU32 cellsS8 ?_
    rw [← sha_start_data]; exact h0
  have t1 : Lib.TabIs Tryz.prog W "codicil/sha.rounds" .u32 J.kays := by
    refine Lib.tabIs_of_head (rest := []) gShaRounds gShaRoundsType Tryz.underlying64 Tryz.underlying63 cellsU32 cellsW64 ?_
    rw [← sha_rounds_data]; exact h1
  have c0 := fun i hi => t0.cell gShaStart i hi
  have c1 := fun i hi => t1.cell gShaRounds i hi
  refine ⟨⟨?_, fun i hi => c1 i hi⟩, ?_, ?_⟩
  · exact World.block_lt_of_cell? W _ (c1 0 (by decide))
  · exact World.block_lt_of_cell? W _ (c0 0 (by decide))
  · intro j v hv
    have hj : j < 8 := by
      have := (List.getElem?_eq_some_iff.1 hv).1
      simpa [J.stArr] using this
    rw [Nat.zero_add, c0 j hj, ← hv]
    rcases j with _ | _ | _ | _ | _ | _ | _ | _ | j
    all_goals first | rfl | omega
def TW (w : World) : Prop := TS w ∧ J.Tabs w
theorem lowW : Low TW where
  keep := fun _ _ h hB => ⟨low.keep _ _ h.1 hB, h.2.below hB⟩
  wsum := fun a len cap ms w hT hR hn => low.wsum a len cap ms w hT.1 hR hn
  swide := fun a ha w hT => low.swide a ha w hT.1
  scheck := fun a ha w hT => low.scheck a ha w hT.1
  smuladd := fun a b c ha hb hc w hT => low.smuladd a b c ha hb hc w hT.1
  add := fun P Q w hT => low.add P Q w hT.1
  add_not := fun a b ha hb h w hT => low.add_not a b ha hb h w hT.1
  mul := fun n hn P w hT => low.mul n hn P w hT.1
  mul_not := fun n a hn ha h w hT => low.mul_not n a hn ha h w hT.1
  base := fun n hn w hT => low.base n hn w hT.1
theorem steW : Ste TW := ste lowW fun _ h => h.2
theorem swakesW (w : World) (hT : TW w) : Calls Tryz.prog 11 #[] w fun x w' => x = .returned (.bool true) ∧ Below w.heap.size w w' := swakes steW w hT
theorem tw_of {W : World} (h : laidMet Tryz.prog [("codicil/field.prime", Rows.laid_codicil_field_prime), ("codicil/field.turn", Rows.laid_codicil_field_turn), ("codicil/curve.nought", Rows.laid_codicil_curve_nought), ("codicil/curve.base", Rows.laid_codicil_curve_base), ("codicil/curve.d", Rows.laid_codicil_curve_d), ("codicil/sha.start", Rows.laid_codicil_sha_start), ("codicil/sha.rounds", Rows.laid_codicil_sha_rounds), ("codicil/wide.start", Rows.laid_codicil_wide_start), ("codicil/wide.rounds", Rows.laid_codicil_wide_rounds), ("codicil/scalar.order", Rows.laid_codicil_scalar_order)] W) : TW W := by
  have h1 := laidMet.filter (fun p => !(p.1 == "codicil/sha.start" || p.1 == "codicil/sha.rounds")) h
  have h2 : laidMet Tryz.prog [("codicil/sha.start", Rows.laid_codicil_sha_start)] W := laidMet.filter (fun p => p.1 == "codicil/sha.start") h
  have h3 : laidMet Tryz.prog [("codicil/sha.rounds", Rows.laid_codicil_sha_rounds)] W := laidMet.filter (fun p => p.1 == "codicil/sha.rounds") h
  exact ⟨ts_of h1, jtabs_of h2 h3⟩
end Go.Proofs.YtgibllaifnnfkaaGreatDoor
