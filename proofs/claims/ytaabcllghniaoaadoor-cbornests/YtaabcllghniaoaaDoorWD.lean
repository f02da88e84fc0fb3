/- The program's writer: what it tells; rows of tokens cut at their front; what an array, a map holds. -/
import Derived.Test.YtaabcllghniaoaaDoorWB
import Derived.Test.YtaabcllghniaoaaDoorWC
import Derived.Test.YtaabcllghniaoaaDoorCG
namespace Go.Proofs.YtaabcllghniaoaaDoor
open Go Go.RowKit
/-- A row of tokens, cut at its front. -/
def cutAddr3 (a : Option Addr) (cap q : Nat) : Option Addr := if cap = q then a else a.map (·.add (q * 3))
theorem run_slice_from3 {P : Program} (w : World) (t e : TypeId) (hu : P.underlying t = some (.slice e)) (hi : (P.info? e).map (·.size) = some 3) (a : Option Addr) (len cap l : Nat) (h1 : l ≤ len) :
    (Instr.sliceAt t (.slice a len cap) (some (.int .i64 (l : Int))) none none).run P w = .ok (.slice (cutAddr3 a cap l) (len - l) (cap - l)) w := by
  have hsz : ∀ w, (sizeOf e).run P w = .ok 3 w := fun w => by
    cases hq : P.info? e with
    | none => simp [hq] at hi
    | some q => simp [sizeOf, typeInfo, hq]; simpa [hq] using hi
  simp [Instr.sliceAt, Instr.slice, run_underlying hu, Instr.sliceBounds, Instr.sliceBound, asIntOf, h1, hsz, cutAddr3]
theorem wpList_slice_from3 {P : Program} {ops : Array Oper} {rest : List Oper} {op : Oper} {a : Act} {w : World} {Q : Exit → Act → World → Prop} (hgd : op.guard = none) (t : TypeId) (x lo : Operand) (ho : op.op = .slice t x (some lo) none none)
    (e : TypeId) (hu : P.underlying t = some (.slice e)) (hi1 : (P.info? e).map (·.size) = some 3) (A : Option Addr) (len cap l : Nat) (hx : a.eval x = .slice A len cap) (hlo : a.eval lo = .int .i64 (l : Int)) (h1 : l ≤ len)
    (hK : wpList P ops Q rest (a.put op.dst (.slice (cutAddr3 A cap l) (len - l) (cap - l))) w) : wpList P ops Q (op :: rest) a w :=
  wpList_plain hgd fun _ hK' => by
    unfold Oper.wp
    simp only [execOp, ho, hx, hlo, Option.map_some, Option.map_none, run_slice_from3 w t e hu hi1 A len cap l h1, Sem.run_bind, Result.andThen_ok]
    exact hK' _ _ hK
theorem tok_size3 : (Tryd.prog.info? 45).map (·.size) = some 3 := by kernel_rfl
theorem toks_drop1 {P : Nat → Prop} {w : World} {a : Option Addr} {cap : Nat} {t : Tk} {L : List Tk} (h : ToksP P w a cap (t :: L)) : ToksP P w (cutAddr3 a cap 1) (cap - 1) L := by
  obtain ⟨⟨h1, h2, h3, h4, h5⟩, h6⟩ := h
  have h2' : L.length + 1 ≤ cap := h2
  obtain ⟨b, off, rfl, hr⟩ := h5 (by simp)
  refine ⟨⟨rfl, by omega, by omega, fun s hs => h4 s (.tail _ hs), fun hp => ?_⟩, fun e => ?_⟩
  · rw [cutAddr3, if_neg (by omega), Option.map_some, Addr.add_mid]
    refine ⟨b, off + 1 * 3, rfl, fun i s hs => ?_⟩
    have := hr (i + 1) s (by rw [List.getElem?_cons_succ]; exact hs)
    rwa [show off + 1 * 3 + i * 3 = off + (i + 1) * 3 by omega]
  · unfold cutAddr3 at e
    split at e
    · cases e
    · cases e
/-- What a writer's step tells: o, behind the bytes that have been, or that there is no such thing, or no room. -/
def WSaid (w0 w w' : World) (gw : Nat) (v : Value) (x : List Int) (o : Option (List Int × List Tk)) (e : Ending) : Prop :=
  (e = .returned (.bool false) ∧ Below w0.heap.size w0 w' ∧ (o = none ∨ ∃ y R, o = some (y, R) ∧ 32768 < x.length + y.length)) ∨
  ∃ y R a' cap' v', o = some (y, R) ∧ e = .returned (.bool true) ∧ Wr w0 w' gw a' cap' R v' (x ++ y) ∧ Gr w w' gw v x.length v'
/-- What an array, a map holds: items, or pairs of them whose first ones rise. -/
def heldO (f : List Tk → Option (List Int × List Tk)) (n : Nat) (pairs : Bool) (L : List Tk) : Option (List Int × List Tk) :=
  match runs f (if pairs = true then 2 * n else n) L with
  | none => none
  | some (xs, R) => if pairs = true ∧ keysUp xs = false then none else some (xs.flatten, R)
theorem itemL_held (f : List Tk → Option (List Int × List Tk)) (t : Tk) (hk : t.k = 5 ∨ t.k = 6) (r : List Tk) : itemL (some f) t r = (heldO f t.n.toNat (decide (t.k = 6)) r).map fun p => (hd (if t.k = 5 then 4 else 5) t.n.toNat ++ p.1, p.2) := by
  unfold itemL heldO howMany
  rcases hk with h | h
  · rw [h]
    simp only [show ¬ ((5 : Int) = 6) by decide, if_true, decide_false, Bool.false_eq_true, if_false, false_and]
    cases runs f t.n.toNat r with
    | none => rfl
    | some p => rfl
  · rw [h]
    simp only [show ¬ ((6 : Int) = 5) by decide, if_false, decide_true, if_true, true_and]
    cases runs f (2 * t.n.toNat) r with
    | none => rfl
    | some p =>
      obtain ⟨xs, R⟩ := p
      simp only
      split <;> rfl
section
variable {f : List Tk → Option (List Int × List Tk)} {i k : Nat} {L r r' : List Tk} {xs : List (List Int)} {y : List Int}
theorem runs_stop (h : runs f i L = some (xs, r)) (hi : i < k) (hx : f r = none) : runs f k L = none := by
  have := runs_add (k - i) h
  rw [show i + (k - i) = k by omega, show k - i = (k - i - 1) + 1 by omega] at this
  rw [this]
  simp only [runs, hx]
theorem runs_on (h : runs f i L = some (xs, r)) (hi : i < k) (hx : f r = some (y, r')) : runs f k L = none ∨ ∃ zs r2, runs f k L = some (xs ++ y :: zs, r2) := by
  have := runs_add (k - i) h
  rw [show i + (k - i) = k by omega, show k - i = (k - i - 1) + 1 by omega] at this
  rw [this]
  simp only [runs, hx]
  cases runs f (k - i - 1) r' with
  | none => exact .inl rfl
  | some p => exact .inr ⟨p.1, p.2, rfl⟩
theorem flatten_on (xs zs : List (List Int)) (y : List Int) : xs.flatten.length + y.length ≤ (xs ++ y :: zs).flatten.length := by
  rw [List.flatten_append, List.length_append, List.flatten_cons, List.length_append]
  omega
theorem held_stop {n : Nat} {pairs : Bool} (h : runs f i L = some (xs, r)) (hi : i < if pairs = true then 2 * n else n) (hx : f r = none) : heldO f n pairs L = none := by
  unfold heldO
  rw [runs_stop h hi hx]
theorem held_long {n : Nat} {pairs : Bool} {N : Nat} (h : runs f i L = some (xs, r)) (hi : i < if pairs = true then 2 * n else n) (hx : f r = some (y, r')) (hl : 32768 < N + xs.flatten.length + y.length) : heldO f n pairs L = none ∨ ∃ Y R, heldO f n pairs L = some (Y, R) ∧ 32768 < N + Y.length := by
  unfold heldO
  rcases runs_on h hi hx with h1 | ⟨zs, r2, h1⟩
  · rw [h1]; exact .inl rfl
  · rw [h1]
    simp only
    split
    · exact .inl rfl
    · have := flatten_on xs zs y
      exact .inr ⟨_, _, rfl, by omega⟩
theorem held_order {n : Nat} (h : runs f i L = some (xs, r)) (hi : i < 2 * n) (hx : f r = some (y, r')) (hu : keysUp (xs ++ [y]) = false) : heldO f n true L = none := by
  unfold heldO
  rw [if_pos rfl]
  rcases runs_on h hi hx with h1 | ⟨zs, r2, h1⟩
  · rw [h1]
  · rw [h1]
    have := keysUp_app_false zs hu
    rw [List.append_assoc] at this
    simp only
    rw [if_pos ⟨trivial, this⟩]
theorem held_all {n : Nat} {pairs : Bool} (h : runs f (if pairs = true then 2 * n else n) L = some (xs, r)) (hu : pairs = true → keysUp xs = true) : heldO f n pairs L = some (xs.flatten, r) := by
  unfold heldO
  rw [h]
  simp only
  rw [if_neg (fun h => by have := hu h.1; rw [h.2] at this; cases this)]
end
end Go.Proofs.YtaabcllghniaoaaDoor
