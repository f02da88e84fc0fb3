/- What the walks lean on, whatever the layer: blocks that are kept, small facts. -/
import Derived.Test.YtaabcllghniaoaaDoorRows
import Derived.WalkKit
import Derived.WalkSpells
import Derived.WalkLawsBesides
import Derived.Deep.QuietTactic
import Derived.Deep.DeepCutAuto
import Derived.Deep.DrawnRows
import Derived.Laws.BitsAllLaws
import Derived.Laws.ResultCell
import Derived.Test.YtaabcllghniaoaaDoorKA
namespace Go.Proofs.YtaabcllghniaoaaDoor
open Go Go.RowKit
theorem bel {w a b : World} (h : Below w.heap.size w a) (k : Below a.heap.size a b) : Below w.heap.size w b := h.trans (k.mono h.size)
theorem alloc_below (w : World) (o : Obj) : Below w.heap.size w (w.alloc o) := (Below.refl _ _).alloc (Nat.le_refl _) _
theorem getq {a : Act} {s : Nat} {v : Value} (h : a.tmps.getD s undef = v) : a.tmps[s]?.getD undef = v := by rw [← h]; simp
theorem notyett {ops : Array Oper} {a0 : Act} {F : Nat → Value → Prop} {J : (Nat → Bool) → (Nat → Value) → World → Prop} {L : Nat → Bool} {vs : Nat → Value} {a : Act} {w : World} (h : Told ops a0 F J L vs a w) (i : Nat) (hi : L i = false) (k : Nat) {o : Oper} (ho : ops[k]? = some o)
    (hB : (o.after.toList.any fun e => e.on == i && Region.binds .any e) = true) : L k = false := by
  cases hk : L k with
  | false => rfl
  | true =>
    obtain ⟨ed, he, h2⟩ := List.any_eq_true.1 hB
    simp only [Bool.and_eq_true, beq_iff_eq] at h2
    have := h.closed k o ho hk ed (by simpa using he) h2.2
    rw [h2.1, hi] at this
    cases this
theorem results_own_tmp {P : Program} {fn : Func} {p u : Tmp} {ty : TypeId} (h : fn.results = #[.cell p ty, .tmp u]) (tmps : Array Value) (w : World) (b : Nat) (A : Array Value) (d : TypeDesc)
    (hp : tmps.getD p undef = .pointer (some ⟨b, 0, none⟩)) {t : TypeId} (ho : Own w b A t) (hu : P.underlying ty = some d) (hd : d.isRow = true) (hi : (P.info? ty).map (·.size) = some A.size) :
    (results fn tmps).run P w = .ok (.tuple #[.agg A, tmps.getD u undef]) w := by
  have := run_loadVar_mid w b 0 ty A.toList d ho.range hu hd (by simpa using hi)
  rw [results_cell_tmp h, hp]
  simp [asAddr, this]

theorem ptr_eq {g g' : Nat} (h : Value.pointer (some ⟨g, 0, none⟩) = .pointer (some ⟨g', 0, none⟩)) : g = g' := by
  simpa only [Value.pointer.injEq, Option.some.injEq, Addr.mk.injEq, and_true] using h
/-- A place outside a row of places. -/
theorem if_off {α : Type} {a i j n : Nat} {x y : α} (h : j < a ∨ a + n ≤ j) (hi : i < n) : (if a + i = j then x else y) = y := if_neg (by omega)
theorem if_oth {α : Type} {a i j k : Nat} {x y : α} (hj : j = a + k) (h : i ≠ k) : (if a + i = j then x else y) = y := if_neg (by omega)
/-- A block more among those that are kept. -/
theorem Kp.cons {l : List (Nat × Array Value × TypeId)} {w0 w : World} {b : Nat} {A : Array Value} {t : TypeId} (h : Kp l w0 w) (ho : Own w b A t) : Kp ((b, A, t) :: l) w0 w :=
  ⟨fun p hp => by
    rcases List.mem_cons.1 hp with rfl | hp
    · exact ho
    · exact h.1 p hp, h.2⟩
theorem Kp.none {l : List (Nat × Array Value × TypeId)} {w0 w : World} (h : Kp l w0 w) : Kp [] w0 w := ⟨fun _ h => by (cases h), h.2⟩
end Go.Proofs.YtaabcllghniaoaaDoor
