/- Rows of tokens whose single tokens change. -/
import Derived.Test.YtaabcllghniaoabDoorCM
namespace Go.Proofs.YtaabcllghniaoabDoor
open Go Go.RowKit
theorem rowCells_cons (t : Tk) (l : List Tk) (v : Value) (vs : List Value) : rowCells (t :: l) (v :: vs) = .int .i64 t.k :: .int .i64 t.n :: v :: rowCells l vs := by
  simp [rowCells, tkCells]
/-- One token's cells, written over. -/
theorem rowCells_set : ∀ (l : List Tk) (vs : List Value), l.length = vs.length → ∀ (i : Nat) (t : Tk) (u : Value), i < l.length → (((rowCells l vs).set (i * 3) (.int .i64 t.k)).set (i * 3 + 1) (.int .i64 t.n)).set (i * 3 + 2) u = rowCells (l.set i t) (vs.set i u)
  | [], _, _, i, t, u, h => absurd h (Nat.not_lt_zero _)
  | _ :: _, [], h, _, _, _, _ => by cases h
  | s :: l, v :: vs, h, 0, t, u, _ => by
    rw [List.set_cons_zero, List.set_cons_zero, rowCells_cons, rowCells_cons]
    rfl
  | s :: l, v :: vs, h, i + 1, t, u, hi => by
    have := rowCells_set l vs (by simpa using h) i t u (by simpa using hi)
    rw [List.set_cons_succ, List.set_cons_succ, rowCells_cons, rowCells_cons, ← this, show (i + 1) * 3 = i * 3 + 1 + 1 + 1 by omega, show i * 3 + 1 + 1 + 1 + 1 = i * 3 + 1 + 1 + 1 + 1 from rfl]
    rfl
theorem rowCells_len (l : List Tk) (vs : List Value) (h : l.length = vs.length) : (rowCells l vs).length = l.length * 3 := rowCells_length l vs h
/-- A token's number, written over. -/
theorem rowCells_setN (l : List Tk) (vs : List Value) (h : l.length = vs.length) (i : Nat) {t : Tk} (ht : l[i]? = some t) (n : Int) : (rowCells l vs).set (i * 3 + 1) (.int .i64 n) = rowCells (l.set i ⟨t.k, n, t.b⟩) vs := by
  have hi := (List.getElem?_eq_some_iff.1 ht).1
  have hv : vs[i]? = some vs[i] := List.getElem?_eq_getElem (by omega)
  obtain ⟨c1, c2, c3⟩ := rowCells_at l vs h i t _ ht hv
  have e1 : (rowCells l vs).set (i * 3) (.int .i64 t.k) = rowCells l vs := by
    refine List.ext_getElem? fun j => ?_
    rw [List.getElem?_set]
    split
    · rename_i e; subst e
      have := (List.getElem?_eq_some_iff.1 c1).1
      rw [if_pos this, c1]
    · rfl
  have e2 : ((rowCells l vs).set (i * 3 + 1) (.int .i64 n)).set (i * 3 + 2) vs[i] = (rowCells l vs).set (i * 3 + 1) (.int .i64 n) := by
    refine List.ext_getElem? fun j => ?_
    rw [List.getElem?_set]
    split
    · rename_i e; subst e
      have := (List.getElem?_eq_some_iff.1 c3).1
      rw [if_pos (by rw [List.length_set]; exact this), List.getElem?_set, if_neg (by omega), c3]
    · rfl
  have e3 : vs.set i vs[i] = vs := by
    refine List.ext_getElem? fun j => ?_
    rw [List.getElem?_set]
    split
    · rename_i e; subst e; rw [if_pos (by omega), hv]
    · rfl
  have := rowCells_set l vs h i ⟨t.k, n, t.b⟩ vs[i] hi
  simp only at this
  rw [e1, e2, e3] at this
  exact this
theorem take_set {α : Type} (l : List α) (n i : Nat) (x : α) : (l.set i x).take n = (l.take n).set i x := by
  rw [List.take_set]
/-- A row of the call's own: its block. -/
theorem OwnToks.row {w : World} {base g len cap : Nat} {l : List Tk} (h : OwnToks w base (.slice (some ⟨g, 0, none⟩) len cap) l) : ∃ cur : Array Value, Own w g cur 30 ∧ ∃ vs : List Value, vs.length = l.length ∧ cur.toList.take (l.length * 3) = rowCells l vs ∧ cur.size = cap * 3 ∧ len = l.length ∧ len ≤ cap ∧ base ≤ g ∧ cap ≤ maxLen ∧ Texts w (.slice (some ⟨g, 0, none⟩) len cap) l vs := by
  obtain ⟨vs, ⟨h1, ⟨e, _⟩ | ⟨g', cp, cur, e, hb, ho, hc, hm, hs, ht⟩⟩, hx⟩ := h
  · cases e
  · simp only [Value.slice.injEq, Option.some.injEq, Addr.mk.injEq, and_true] at e
    obtain ⟨rfl, rfl, rfl⟩ := e
    exact ⟨cur, ho, vs, hx.1, ht, hs, rfl, hc, hb, hm, hx⟩
theorem Tx.over {w w' : World} {u : Value} {m : List Int} (h : Tx w u m) (hne : 0 < m.length → ∀ b ∈ blks u, w'.heap[b]? = w.heap[b]?) : Tx w' u m := by
  obtain ⟨a, c, rfl, ⟨h1, h2, h3, h4, h5⟩, h6⟩ := h
  refine ⟨a, c, rfl, ⟨h1, h2, h3, h4, fun hp => ?_⟩, h6⟩
  obtain ⟨b, o, rfl, hr⟩ := h5 hp
  exact ⟨b, o, rfl, range_of_block (hne hp b (.head _)) hr⟩
/-- A row of tokens whose own block alone changes. -/
theorem OwnToks.turn {w w' : World} {base g len cap : Nat} {l l' : List Tk} {us' : List Value} {cur' : Array Value} (ho' : Own w' g cur' 30) (hlen : l'.length = l.length) (hus' : us'.length = l.length) (hs : cur'.size = cap * 3) (hcur' : cur'.toList.take (l.length * 3) = rowCells l' us') (hl : len = l.length) (hc : len ≤ cap) (hb : base ≤ g) (hm : cap ≤ maxLen)
    (hx : ∀ (j : Nat) (t : Tk) (u : Value), l'[j]? = some t → us'[j]? = some u → t.wf ∧ Tx w u t.b ∧ (0 < t.b.length → ∀ g' ∈ blks u, g' ≠ g)) (hoth : ∀ b, b < w.heap.size → b ≠ g → w'.heap[b]? = w.heap[b]?) : OwnToks w' base (.slice (some ⟨g, 0, none⟩) len cap) l' := by
  subst hl
  refine ⟨us', ⟨?_, .inr ⟨g, cap, cur', by rw [hlen], hb, ho', by rw [hlen]; exact hc, hm, hs, by rw [hlen]; exact hcur'⟩⟩, by rw [hus', hlen], fun j s u hj hu => ?_⟩
  · rw [rowCells_length _ _ (by rw [hlen, hus'])]
  · obtain ⟨a1, a2, a3⟩ := hx j s u hj hu
    refine ⟨a1, a2.over fun hp b hb' => hoth b (a2.blk_lt hp b hb') (a3 hp b hb'), fun hp z hz z' hz' => ?_⟩
    obtain rfl : z = g := by simpa [blks] using hz
    exact a3 hp z' hz'
/-- A token's number is stored. -/
theorem OwnToks.setN {w w' : World} {base g len cap : Nat} {l : List Tk} (h : OwnToks w base (.slice (some ⟨g, 0, none⟩) len cap) l) {i : Nat} {t : Tk} (ht : l[i]? = some t) {n : Int} (h0 : -9223372036854775808 ≤ n) (h1 : n < 9223372036854775808) (hrow : ∀ cur, Own w g cur 30 → Own w' g (cur.setIfInBounds (i * 3 + 1) (.int .i64 n)) 30) (hoth : ∀ b, b < w.heap.size → b ≠ g → w'.heap[b]? = w.heap[b]?) : OwnToks w' base (.slice (some ⟨g, 0, none⟩) len cap) (l.set i ⟨t.k, n, t.b⟩) := by
  obtain ⟨cur, ho, vs, hv, hcur, hs, hl, hc, hb, hm, hx⟩ := h.row
  refine OwnToks.turn (l := l) (us' := vs) (hrow cur ho) (List.length_set) hv (by rw [Array.size_setIfInBounds]; exact hs) (by rw [Array.toList_setIfInBounds, take_set, hcur, rowCells_setN l vs hv.symm i ht n]) hl hc hb hm (fun j s u hj hu => ?_) hoth
  have old : ∀ s', l[j]? = some s' → s'.wf ∧ Tx w u s'.b ∧ (0 < s'.b.length → ∀ g' ∈ blks u, g' ≠ g) := fun s' hs' => by
    obtain ⟨a1, a2, a3⟩ := hx.2 j s' u hs' hu
    exact ⟨a1, a2, fun hp z' hz' => a3 hp g (.head _) z' hz'⟩
  rw [List.getElem?_set] at hj
  split at hj
  · rename_i e
    subst e
    have hi := (List.getElem?_eq_some_iff.1 ht).1
    rw [if_pos hi] at hj
    obtain rfl := Option.some.inj hj
    obtain ⟨a1, a2, a3⟩ := old t ht
    exact ⟨⟨a1.1, h0, h1⟩, a2, a3⟩
  · exact old s hj
end Go.Proofs.YtaabcllghniaoabDoor
