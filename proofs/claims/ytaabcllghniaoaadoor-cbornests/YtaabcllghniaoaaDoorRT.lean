/- Rows of tokens that came in. -/
import Derived.Test.YtaabcllghniaoaaDoorCM
import Derived.Test.YtaabcllghniaoaaDoorRN
import Derived.Deep.Slices
import Derived.Deep.Strs
namespace Go.Proofs.YtaabcllghniaoaaDoor
open Go Go.ChangeShapes Go.WideShapes Go.ChangeAt Go.RowKit
theorem cells_tok : Tryd.prog.cellsOf 45 = 3 := by kernel_rfl
theorem cells_int : Tryd.prog.cellsOf 3 = 1 := by kernel_rfl
theorem cells_bytes : Tryd.prog.cellsOf 25 = 1 := by kernel_rfl
/-- One token that came in. -/
theorem tok_of {H : Type} {enc : TypeId × Value → H} {W : World} {base : Nat} {held : Bool} {n : Nat} {cs : List Value} {x : DataW H × List MemPlace}
    (h : DataW.trod enc Tryd.prog W base (fun _ => true) held n 45 cs = some x) : ∃ (t : Tk) (v : Value), t.wf ∧ cs = tkCells t v ∧ Tx W v t.b := by
  obtain ⟨y0, y1, y2, n', -, hl, g0, g1, g2⟩ := Deep.trod_struct3 Tryd.underlying45 h
  rw [cells_tok] at hl
  match cs, hl with
  | [u0, u1, u2], _ =>
    simp only [cells_int, cells_bytes, List.drop_zero, List.drop_succ_cons, List.take_succ_cons, List.take_zero] at g0 g1 g2
    obtain ⟨k, e0, -, w0⟩ := DataW.trod_int Tryd.underlying3 g0
    obtain ⟨m, e1, -, w1⟩ := DataW.trod_int Tryd.underlying3 g1
    have e2 : ∃ a len cap, u2 = .slice a len cap := by
      rcases open_ints Tryd.underlying25 Tryd.underlying5 (by kernel_rfl) g2 with ⟨hcs, _⟩ | ⟨x, l, c, zs, hcs, _⟩
      · exact ⟨none, 0, 0, by simpa using hcs⟩
      · exact ⟨some x, l, c, by simpa using hcs⟩
    obtain ⟨a, len, cap, rfl⟩ := e2
    obtain ⟨zs, hz⟩ := isRow_of (a := a) (len := len) (cap := cap) (d := y2.1) (p := y2.2) ⟨n', g2⟩
    obtain ⟨he, ht⟩ := txt_of_row hz
    refine ⟨⟨k, m, zs.take len⟩, .slice a len cap, ⟨wf_i64 w0, wf_i64 w1⟩, ?_, ⟨a, cap, ?_, ht⟩⟩
    · simp only [List.cons.injEq, and_true] at e0 e1
      rw [e0, e1]; rfl
    · show Value.slice a len cap = .slice a (zs.take len).length cap
      rw [← he]
/-- A row of tokens that came in. -/
theorem toks_of {H : Type} {enc : TypeId × Value → H} {W : World} {base : Nat} {held : Bool} {a : Option Addr} {len cap : Nat} {d : DataW H} {p : List MemPlace}
    (h : DataW.Trod enc Tryd.prog W base (fun _ => true) held 22 (Value.slice a len cap) d p) : ∃ l : List Tk, len = l.length ∧ Toks W a cap l := by
  obtain ⟨fuel, hf⟩ := h
  rcases Deep.open_slice Tryd.underlying22 hf with ⟨hcs, _⟩ | ⟨x, l, c, m, n, D, Pl, hcs, -, hl, hm, hmm, -, hx⟩
  · simp [Value.cells] at hcs
    obtain ⟨rfl, rfl, rfl⟩ := hcs
    exact ⟨[], rfl, toks_none _ _⟩
  · simp [Value.cells] at hcs
    obtain ⟨rfl, rfl, rfl⟩ := hcs
    have hmc : m = cap := by simpa using hmm
    subst hmc
    have each : ∀ i, i < m → ∃ t : Tk, t.wf ∧ ∃ v, Tx W v t.b ∧ W.cell? (x.add (i * 3)) = some (.int .i64 t.k) ∧ W.cell? ((x.add (i * 3)).add 1) = some (.int .i64 t.n) ∧ W.cell? ((x.add (i * 3)).add 2) = some v := fun i hi => by
      obtain ⟨cs', h1, h2⟩ := hx i hi
      rw [cells_tok] at h1
      obtain ⟨-, -, hc⟩ := World.cells?_some h1
      obtain ⟨t, v, hw, rfl, hT⟩ := tok_of h2
      have c0 := hc 0 (by omega)
      have c1 := hc 1 (by omega)
      have c2 := hc 2 (by omega)
      refine ⟨t, hw, v, hT, ?_, c1, c2⟩
      have e : (x.add (i * 3)).add 0 = x.add (i * 3) := if_pos rfl
      rw [e] at c0
      exact c0
    obtain ⟨T, hTk⟩ : ∃ T : Nat → Tk, ∀ i, i < m → (T i).wf ∧ ∃ v, Tx W v (T i).b ∧ W.cell? (x.add (i * 3)) = some (.int .i64 (T i).k) ∧ W.cell? ((x.add (i * 3)).add 1) = some (.int .i64 (T i).n) ∧ W.cell? ((x.add (i * 3)).add 2) = some v :=
      ⟨fun i => if h : i < m then (each i h).choose else ⟨0, 0, []⟩, fun i hi => by
        simp only [dif_pos hi]
        exact (each i hi).choose_spec⟩
    refine ⟨(List.range len).map T, by simp, ⟨by simp, by simpa using hl, hm, ?_, ?_⟩, fun e => by cases e⟩
    · intro t ht
      obtain ⟨i, hi, rfl⟩ := List.mem_map.1 ht
      exact (hTk i (by have := List.mem_range.1 hi; omega)).1
    · intro hp
      have hp' : 0 < len := by simpa using hp
      obtain ⟨b, off, spot⟩ := x
      obtain ⟨-, v0, -, hc, -⟩ := hTk 0 (by omega)
      have hspot : spot = none := by simpa [Addr.add] using World.cell?_spot hc
      subst hspot
      refine ⟨b, off, rfl, fun i t ht => ?_⟩
      have hi : i < len := by simpa using (List.getElem?_eq_some_iff.1 ht).1
      have hti : t = T i := by
        rw [List.getElem?_map, List.getElem?_range hi] at ht
        simpa using ht.symm
      subst hti
      obtain ⟨-, v, hT, c0, c1, c2⟩ := hTk i (by omega)
      rw [Addr.add_mid] at c0
      rw [Addr.add_mid, Addr.add_mid] at c1 c2
      exact ⟨c0, c1, v, c2, hT, fun _ _ _ => trivial⟩
end Go.Proofs.YtaabcllghniaoaaDoor
