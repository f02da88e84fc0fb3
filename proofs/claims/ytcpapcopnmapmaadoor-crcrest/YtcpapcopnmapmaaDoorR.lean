/- What the rows' list gives: the table. -/
import Derived.Test.YtcpapcopnmapmaaDoorW8
import Derived.Test.YtcpapcopnmapmaaDoorCards
import Derived.Test.YtcpapcopnmapmaaDoorTie
import Derived.ProofKit
import Derived.OpenShut
import Derived.ChangeOld
import Derived.Deep.DeepHandedRow
import Derived.Lib.LaidTab
import Derived.LaidSub
namespace Go.Proofs.YtcpapcopnmapmaaDoor
open Go.ChangeShapes Go.WideShapes Go.ChangeAt Go.RowKit

theorem own : ownKnob Tryd.prog.godebug = none := by kernel_rfl
theorem laidOut : laidOutB Tryd.prog = true := by kernel_rfl
theorem gQuarters : Tryd.prog.globalNamed "codicil/crc.quarters" = some 0 := by kernel_rfl
theorem gQuartersType : (Tryd.prog.globals[0]?).map (·.type) = some 32 := by kernel_rfl
theorem cells32 : Tryd.prog.cellsOf 32 = 16 := by kernel_rfl
theorem cells24 : Tryd.prog.cellsOf 24 = 1 := by kernel_rfl

/-- The table's words. -/
def quartsI : List Int := [0, 498536548, 997073096, 651767980, 1994146192, 1802195444, 1303535960, 1342533948, 3988292384, 4027552580, 3604390888, 3412177804, 2607071920, 2262029012, 2685067896, 3183342108]
theorem quartsI_eq : ∀ i, i < 16 → quartsI.getD i 0 = ((quarts.getD i 0 : Nat) : Int) := by decide
def theLaid : List (String × DataW Unit) := [("codicil/crc.quarters", Rows.laid_codicil_crc_quarters)]
theorem quarters_data : (Rows.laid_codicil_crc_quarters : DataW Unit) = Lib.tabData .u32 quartsI := rfl

theorem tabs_of {W : World} (h : laidMetH Tryd.prog theLaid W) : Tabs W := by
  have h0 : laidMet Tryd.prog theLaid W := h
  have t0 : Lib.TabIs Tryd.prog W "codicil/crc.quarters" .u32 quartsI := by
    refine Lib.tabIs_of_head (rest := []) gQuarters gQuartersType Tryd.underlying32 Tryd.underlying24 cells24 cells32 ?_
    rw [← quarters_data]; exact h0
  have c0 := fun i hi => t0.cell gQuarters i hi
  refine ⟨World.block_lt_of_cell? W _ (c0 0 (by decide)), fun i hi => ?_⟩
  rw [← quartsI_eq i hi]; exact c0 i hi

/-- What the walk is told of a slice of bytes that came in. -/
def IsRow (k : IntKind) (w : World) (a : Option Addr) (len cap : Nat) (zs : List Int) : Prop :=
  (a = none ∧ len = 0 ∧ cap = 0 ∧ zs = []) ∨
  ∃ x, a = some x ∧ len ≤ cap ∧ cap ≤ maxLen ∧ zs.length = cap ∧ (∀ i, i < zs.length → w.cell? (x.add i) = some (.int k (zs.getD i 0))) ∧ ∀ n ∈ zs, (Lit.int k n).wf = true
theorem wf_u8 {n : Int} (h : (Lit.int .u8 n).wf = true) : 0 ≤ n ∧ n < 256 := by
  have := bounds_u8 h; omega
theorem bytesV_of_row {w : World} {a : Option Addr} {len cap : Nat} {zs : List Int} (h : IsRow .u8 w a len cap zs) : BytesV w a len cap (zs.take len) := by
  rcases h with ⟨rfl, rfl, rfl, rfl⟩ | ⟨x, rfl, hl, hm, hz, hcell, hwz⟩
  · exact ⟨rfl, Nat.le_refl _, by decide, fun x hx => by simp at hx, fun hp => absurd hp (by decide)⟩
  · refine ⟨by simp; omega, hl, hm, fun x hx => wf_u8 (hwz x (List.mem_of_mem_take hx)), fun hp => ?_⟩
    obtain ⟨b, off, spot⟩ := x
    have hc := hcell 0 (by omega)
    have hspot : spot = none := by simpa [Addr.add] using World.cell?_spot hc
    subst hspot
    refine ⟨b, off, rfl, fun j v hv => ?_⟩
    have hj : j < len := by
      have := (List.getElem?_eq_some_iff.1 hv).1
      simp [u8s] at this; omega
    have h1 := hcell j (by omega)
    rw [Addr.add_mid] at h1
    rw [h1, ← hv]
    have hjz : j < zs.length := by omega
    simp [u8s, hj, hjz, List.getD]
theorem nil_of_row {w : World} {a : Option Addr} {len cap : Nat} {zs : List Int} (h : IsRow .u8 w a len cap zs) : a = none → cap = 0 := fun e => by
  rcases h with ⟨_, _, h, _⟩ | ⟨x, rfl, _⟩
  · exact h
  · cases e
theorem isRow_of {H : Type} {enc : TypeId × Value → H} {W : World} {base : Nat} {held : Bool} {a : Option Addr} {len cap : Nat} {d : DataW H} {p : List MemPlace}
    (h : DataW.Trod enc Tryd.prog W base (fun _ => true) held 22 (Value.slice a len cap) d p) : ∃ zs, IsRow .u8 W a len cap zs := by
  obtain ⟨fuel, hf⟩ := h
  rcases open_ints Tryd.underlying22 Tryd.underlying5 (by kernel_rfl) hf with ⟨hcs, _⟩ | ⟨x, l, c, zs, hcs, _, hl, hm, hz, _, hcell, hwz⟩
  · simp [Value.cells] at hcs
    obtain ⟨rfl, rfl, rfl⟩ := hcs
    exact ⟨[], .inl ⟨rfl, rfl, rfl, rfl⟩⟩
  · simp [Value.cells] at hcs
    obtain ⟨rfl, rfl, rfl⟩ := hcs
    exact ⟨zs, .inr ⟨_, rfl, hl, hm, by simpa using hz, hcell, hwz⟩⟩

/-- The cells of a block, laid anew. -/
def relay (A : Array Value) : Obj → Obj
  | .cells _ t frozen => .cells A t frozen
  | o => o
/-- A world for the witness: the settled one, the table holding what its initialiser lays. -/
noncomputable def laidWorld (os : Os) : World :=
  { World.holding Tryd.prog os ⟨#[], #[], []⟩ with heap := (World.holding Tryd.prog os ⟨#[], #[], []⟩).heap.modify 0 (relay (quartsI.map (Value.int .u32)).toArray) }
end Go.Proofs.YtcpapcopnmapmaaDoor
