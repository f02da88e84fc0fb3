/- What the rows' list gives: the two tables. -/
import Derived.Test.YtbofcnmhdjleeaaDoorW8
import Derived.Test.YtbofcnmhdjleeaaDoorCards
import Derived.Test.YtbofcnmhdjleeaaDoorTie
import Derived.ProofKit
import Derived.OpenShut
import Derived.ChangeOld
import Derived.Deep.DeepHandedRow
import Derived.Lib.LaidTab
import Derived.LaidSub
namespace Go.Proofs.YtbofcnmhdjleeaaDoor
open Go.ChangeShapes Go.WideShapes Go.ChangeAt Go.RowKit

theorem own : ownKnob Tryd.prog.godebug = none := by kernel_rfl
theorem laidOut : laidOutB Tryd.prog = true := by kernel_rfl
theorem gStart : Tryd.prog.globalNamed "codicil/wide.start" = some 0 := by kernel_rfl
theorem gStartType : (Tryd.prog.globals[0]?).map (·.type) = some 36 := by kernel_rfl
theorem gRounds : Tryd.prog.globalNamed "codicil/wide.rounds" = some 1 := by kernel_rfl
theorem gRoundsType : (Tryd.prog.globals[1]?).map (·.type) = some 43 := by kernel_rfl
theorem cells36 : Tryd.prog.cellsOf 36 = 8 := by kernel_rfl
theorem cells43 : Tryd.prog.cellsOf 43 = 80 := by kernel_rfl
theorem cells35 : Tryd.prog.cellsOf 35 = 1 := by kernel_rfl

def bothLaid : List (String × DataW Unit) := [("codicil/wide.start", Rows.laid_codicil_wide_start), ("codicil/wide.rounds", Rows.laid_codicil_wide_rounds)]
theorem start_data : (Rows.laid_codicil_wide_start : DataW Unit) = Lib.tabData .u64 (stWords start) := rfl
theorem rounds_data : (Rows.laid_codicil_wide_rounds : DataW Unit) = Lib.tabData .u64 kays := rfl

theorem tabs_of {W : World} (h : laidMetH Tryd.prog bothLaid W) : Tabs W := by
  have h0 : laidMet Tryd.prog bothLaid W := h
  have t0 : Lib.TabIs Tryd.prog W "codicil/wide.start" .u64 (stWords start) := by
    refine Lib.tabIs_of_head (rest := [("codicil/wide.rounds", Rows.laid_codicil_wide_rounds)]) gStart gStartType Tryd.underlying36 Tryd.underlying35 cells35 cells36 ?_
    rw [← start_data]; exact h0
  have t1 : Lib.TabIs Tryd.prog W "codicil/wide.rounds" .u64 kays := by
    refine Lib.tabIs_of_head (rest := []) gRounds gRoundsType Tryd.underlying43 Tryd.underlying35 cells35 cells43 ?_
    rw [← rounds_data]
    exact laidMet.filter (fun x => x.1 == "codicil/wide.rounds") h0
  have c0 := fun i hi => t0.cell gStart i hi
  have c1 := fun i hi => t1.cell gRounds i hi
  refine ⟨⟨?_, fun i hi => c1 i hi⟩, ?_, ?_⟩
  · exact World.block_lt_of_cell? W _ (c1 0 (by decide))
  · exact World.block_lt_of_cell? W _ (c0 0 (by decide))
  · intro j v hv
    have hj : j < 8 := by
      have := (List.getElem?_eq_some_iff.1 hv).1
      simpa [stArr] using this
    rw [Nat.zero_add, c0 j hj, ← hv]
    rcases j with _ | _ | _ | _ | _ | _ | _ | _ | j
    all_goals first | rfl | omega

/-- What the walk is told of a slice of bytes that came in. -/
def IsRow (k : IntKind) (w : World) (a : Option Addr) (len cap : Nat) (zs : List Int) : Prop :=
  (a = none ∧ len = 0 ∧ cap = 0 ∧ zs = []) ∨
  ∃ x, a = some x ∧ len ≤ cap ∧ cap ≤ maxLen ∧ zs.length = cap ∧ (∀ i, i < zs.length → w.cell? (x.add i) = some (.int k (zs.getD i 0))) ∧ ∀ n ∈ zs, (Lit.int k n).wf = true
theorem wf_u8 {n : Int} (h : (Lit.int .u8 n).wf = true) : 0 ≤ n ∧ n < 256 := by
  have := bounds_u8 h; omega
theorem bytesV_of_row {w : World} {a : Option Addr} {len cap : Nat} {zs : List Int} (h : IsRow .u8 w a len cap zs) : BytesV w a len cap (zs.take len) := by
  rcases h with ⟨rfl, rfl, rfl, rfl⟩ | ⟨x, rfl, hl, hm, hz, hcell, hwz⟩
  · exact ⟨rfl, Nat.le_refl _, by decide, fun x hx => by simp at hx, fun hp => absurd hp (by decide)⟩
  · refine ⟨by simp; omega, hl, hm, fun x hx => wf_u8 (hwz x (List.mem_of_mem_take hx)), fun hp => ?_⟩
    obtain ⟨b, off, spot⟩ := x
    have hc := hcell 0 (by omega)
    have hspot : spot = none := by simpa [Addr.add] using World.cell?_spot hc
    subst hspot
    refine ⟨b, off, rfl, fun j v hv => ?_⟩
    have hj : j < len := by
      have := (List.getElem?_eq_some_iff.1 hv).1
      simp [u8s] at this; omega
    have h1 := hcell j (by omega)
    rw [Addr.add_mid] at h1
    rw [h1, ← hv]
    have hjz : j < zs.length := by omega
    simp [u8s, hj, hjz, List.getD]
theorem nil_of_row {w : World} {a : Option Addr} {len cap : Nat} {zs : List Int} (h : IsRow .u8 w a len cap zs) : a = none → cap = 0 := fun e => by
  rcases h with ⟨_, _, h, _⟩ | ⟨x, rfl, _⟩
  · exact h
  · cases e
theorem isRow_of {H : Type} {enc : TypeId × Value → H} {W : World} {base : Nat} {held : Bool} {a : Option Addr} {len cap : Nat} {d : DataW H} {p : List MemPlace}
    (h : DataW.Trod enc Tryd.prog W base (fun _ => true) held 23 (Value.slice a len cap) d p) : ∃ zs, IsRow .u8 W a len cap zs := by
  obtain ⟨fuel, hf⟩ := h
  rcases open_ints Tryd.underlying23 Tryd.underlying5 (by kernel_rfl) hf with ⟨hcs, _⟩ | ⟨x, l, c, zs, hcs, _, hl, hm, hz, _, hcell, hwz⟩
  · simp [Value.cells] at hcs
    obtain ⟨rfl, rfl, rfl⟩ := hcs
    exact ⟨[], .inl ⟨rfl, rfl, rfl, rfl⟩⟩
  · simp [Value.cells] at hcs
    obtain ⟨rfl, rfl, rfl⟩ := hcs
    exact ⟨zs, .inr ⟨_, rfl, hl, hm, by simpa using hz, hcell, hwz⟩⟩

/-- The cells of a block, laid anew. -/
def relay (A : Array Value) : Obj → Obj
  | .cells _ t frozen => .cells A t frozen
  | o => o
/-- A world for the witness: the settled one, the two tables holding what their initialisers lay. -/
noncomputable def laidWorld (os : Os) : World :=
  { World.holding Tryd.prog os ⟨#[], #[], []⟩ with heap := ((World.holding Tryd.prog os ⟨#[], #[], []⟩).heap.modify 0 (relay (stArr start))).modify 1 (relay (kays.map (Value.int .u64)).toArray) }
end Go.Proofs.YtbofcnmhdjleeaaDoor
