/- Small laws on blocks that a call owns, and on rows of cells. -/
import Derived.WalkKit
import Derived.WalkSmall
import Derived.Deep.MidRow
import Derived.Deep.WholeRow
import Derived.Deep.Draws
import Derived.Laws.CopyOwn
namespace Go.Proofs.YtofoihebhdpjlaaDoor
open Go.RowKit

/-- Block b holds just these cells, and all of them may be written. -/
def Own (w : World) (b : Nat) (A : Array Value) (t : TypeId) : Prop := w.heap[b]? = some (.cells A t (0, 0))
theorem Own.lt {w : World} {b : Nat} {A : Array Value} {t : TypeId} (h : Own w b A t) : b < w.heap.size := (Array.getElem?_eq_some_iff.1 h).1
theorem Own.cell {w : World} {b : Nat} {A : Array Value} {t : TypeId} (h : Own w b A t) {i : Nat} {v : Value} (hv : A[i]? = some v) : w.cell? ⟨b, i, none⟩ = some v := by
  rw [cell_of_row w b i A t (0, 0) h]; exact hv
theorem Own.frozen {w : World} {b : Nat} {A : Array Value} {t : TypeId} (h : Own w b A t) (i : Nat) : w.frozen? ⟨b, i, none⟩ = false := by
  have h' : w.heap[b]? = some (.cells A t (0, 0)) := h
  simp [World.frozen?, h']
theorem Own.below {w w' : World} {b B : Nat} {A : Array Value} {t : TypeId} (h : Own w b A t) (hB : Below B w w') (hb : b < B) : Own w' b A t := by
  unfold Own; rw [hB.block b hb]; exact h
theorem Own.alloc {w : World} {b : Nat} {A : Array Value} {t : TypeId} (h : Own w b A t) (o : Obj) : Own (w.alloc o) b A t := by
  unfold Own; rw [Below.heap_alloc _ _ _ h.lt]; exact h
theorem own_new (w : World) (A : Array Value) (t : TypeId) : Own (w.alloc (.cells A t)) w.heap.size A t := heap_alloc_last w _
theorem Own.drewN {w : World} {b : Nat} {A : Array Value} {t : TypeId} (h : Own w b A t) (n : Nat) : Own (w.drewN n) b A t := h
theorem Own.setCell {w : World} {b : Nat} {A : Array Value} {t : TypeId} (h : Own w b A t) (i : Nat) (v : Value) : Own (w.setCell ⟨b, i, none⟩ v) b (A.setIfInBounds i v) t := by
  have h' : w.heap[b]? = some (.cells A t (0, 0)) := h
  unfold Own World.setCell
  simp only [Array.getElem?_modify, h']
  simp
theorem Own.setCell_other {w : World} {b : Nat} {A : Array Value} {t : TypeId} (h : Own w b A t) {p : Addr} (hp : p.block ≠ b) (v : Value) : Own (w.setCell p v) b A t := by
  unfold Own; rw [Below.heap_setCell _ _ _ _ (Ne.symm hp)]; exact h
theorem Own.range {w : World} {b : Nat} {A : Array Value} {t : TypeId} (h : Own w b A t) : w.rangeAt b 0 A.toList := fun j v hv => by
  rw [Nat.zero_add]; exact h.cell (by simpa using hv)
theorem Own.there {w : World} {b : Nat} {A : Array Value} {t : TypeId} (h : Own w b A t) (o n : Nat) (hn : o + n ≤ A.size) : w.there b o n := fun j hj => by
  refine ⟨?_, h.frozen _⟩
  have hlt : o + j < A.size := by omega
  rw [h.cell (Array.getElem?_eq_getElem hlt)]; rfl

/-- n bytes lie in a block from an offset on. -/
def BytesAt (w : World) (b off n : Nat) (f : Nat → Int) : Prop := ∀ i, i < n → w.cell? ⟨b, off + i, none⟩ = some (.int .u8 (f i)) ∧ 0 ≤ f i ∧ f i < 256
theorem BytesAt.below {w w' : World} {b off n : Nat} {f : Nat → Int} (h : BytesAt w b off n f) (hB : Below w.heap.size w w') : BytesAt w' b off n f := fun i hi => by
  have h1 := (h i hi).1
  refine ⟨?_, (h i hi).2⟩
  rw [hB.cell (World.block_lt_of_cell? w _ h1)]; exact h1
theorem BytesAt.part {w : World} {b off n : Nat} {f : Nat → Int} (h : BytesAt w b off n f) (o m : Nat) (hm : o + m ≤ n) : BytesAt w b (off + o) m (fun i => f (o + i)) := fun i hi => by
  have := h (o + i) (by omega)
  rwa [← Nat.add_assoc] at this

/-- A result that lies in memory, read out of its row of cells. -/
theorem results_cell {P : Program} {fn : Func} {p : Tmp} {ty : TypeId} (h : fn.results = #[.cell p ty]) (tmps : Array Value) (w : World) (b o : Nat) (cs : List Value) (d : TypeDesc)
    (hp : tmps.getD p undef = .pointer (some ⟨b, o, none⟩)) (hc : w.rangeAt b o cs) (hu : P.underlying ty = some d) (hd : d.isRow = true) (hi : (P.info? ty).map (·.size) = some cs.length) :
    (results fn tmps).run P w = .ok (.agg cs.toArray) w := by
  have := run_loadVar_mid w b o ty cs d hc hu hd hi
  have hp' : tmps[p]?.getD undef = .pointer (some ⟨b, o, none⟩) := by simpa using hp
  simp only [results, h]
  simp [hp', asAddr, this]
theorem results_own {P : Program} {fn : Func} {p : Tmp} {ty : TypeId} (h : fn.results = #[.cell p ty]) (tmps : Array Value) (w : World) (b : Nat) (A : Array Value) (d : TypeDesc)
    (hp : tmps.getD p undef = .pointer (some ⟨b, 0, none⟩)) {t : TypeId} (ho : Own w b A t) (hu : P.underlying ty = some d) (hd : d.isRow = true) (hi : (P.info? ty).map (·.size) = some A.size) :
    (results fn tmps).run P w = .ok (.agg A) w :=
  results_cell h tmps w b 0 A.toList d hp ho.range hu hd (by simpa using hi)
theorem Below.setCells {B : Nat} {a : World} : ∀ (vs : List Value) (b o : Nat) (w : World), B ≤ b → Below B a w → Below B a (w.setCells b o vs)
  | [], _, _, _, _, h => h
  | v :: r, b, o, w, hb, h => by
    rw [World.setCells]
    exact Below.setCells r b (o + 1) _ hb (h.setCell hb v)
theorem bcell {W w1 : World} (hb : Below W.heap.size W w1) : (∀ b o, b < W.heap.size → w1.cell? ⟨b, o, none⟩ = W.cell? ⟨b, o, none⟩) ∧ (∀ b o, b < W.heap.size → w1.frozen? ⟨b, o, none⟩ = W.frozen? ⟨b, o, none⟩) :=
  ⟨fun b o h => hb.cell (p := ⟨b, o, none⟩) h, fun b o h => hb.frozen (p := ⟨b, o, none⟩) h⟩

/-- A store of a whole row into a block of the call's own, from its head. -/
theorem setCells_own : ∀ (vs : List Value) (o : Nat) (w : World) (b : Nat) (A : Array Value) (t : TypeId), Own w b A t → ∃ A', Own (w.setCells b o vs) b A' t ∧ A'.size = A.size
  | [], _, _, _, A, _, h => ⟨A, h, rfl⟩
  | v :: r, o, w, b, A, t, h => by
    rw [World.setCells]
    obtain ⟨A', h1, h2⟩ := setCells_own r (o + 1) _ b _ t (h.setCell o v)
    exact ⟨A', h1, by simpa using h2⟩
theorem own_setCells {w : World} {b : Nat} {A B : Array Value} {t : TypeId} (h : Own w b A t) (hs : B.size = A.size) : Own (w.setCells b 0 B.toList) b B t := by
  obtain ⟨A', h1, h2⟩ := setCells_own B.toList 0 w b A t h
  have h3 := World.rangeAt_setCells_same w b 0 B.toList (h.there 0 _ (by simp; omega))
  have : A' = B := by
    apply Array.ext_getElem?
    intro i
    by_cases hi : i < B.size
    · have h4 := h3 i B[i] (by simp [hi])
      rw [Nat.zero_add, cell_of_row _ b i A' t (0, 0) h1] at h4
      rw [h4]; simp [hi]
    · rw [Array.getElem?_eq_none (by omega), Array.getElem?_eq_none (by omega)]
  exact this ▸ h1
theorem Own.setCells_other {b b' : Nat} {A : Array Value} {t : TypeId} (hb : b ≠ b') : ∀ (vs : List Value) (o : Nat) (w : World), Own w b A t → Own (w.setCells b' o vs) b A t
  | [], _, _, h => h
  | v :: r, o, w, h => by
    rw [World.setCells]
    exact Own.setCells_other hb r (o + 1) _ (h.setCell_other (by exact Ne.symm hb) v)

/-- The operations, at a plain region's list. -/
theorem wpList_load_own {P : Program} {ops : Array Oper} {rest : List Oper} {op : Oper} {a : Act} {w : World} {Q : Exit → Act → World → Prop} (hgd : op.guard = none) (ty : TypeId) (x : Operand) (ho : op.op = .load ty x)
    (b : Nat) (hx : a.eval x = .pointer (some ⟨b, 0, none⟩)) (A : Array Value) (d : TypeDesc) {t : TypeId} (hc : Own w b A t)
    (hu : P.underlying ty = some d) (hd : d.isRow = true) (hi : (P.info? ty).map (·.size) = some A.size)
    (h : wpList P ops Q rest (a.put op.dst (.agg A)) w) : wpList P ops Q (op :: rest) a w :=
  wpList_load_mid hgd ty x ho b 0 hx A.toList d hc.range hu hd (by simpa using hi) h
theorem wpList_store_own {P : Program} {ops : Array Oper} {rest : List Oper} {op : Oper} {a : Act} {w : World} {Q : Exit → Act → World → Prop} (hgd : op.guard = none) (ty : TypeId) (x y : Operand) (ho : op.op = .store ty x y)
    (b o : Nat) (cells : Array Value) (hx : a.eval x = .pointer (some ⟨b, o, none⟩)) (hy : a.eval y = .agg cells)
    {A : Array Value} {t : TypeId} (ht : Own w b A t) (hs : o + cells.size ≤ A.size) (hi : (P.info? ty).map (·.size) = some cells.size) (h1 : cells.all (·.oneCell') = true) (hd : op.dst = none)
    (h : wpList P ops Q rest a (w.setCells b o cells.toList)) : wpList P ops Q (op :: rest) a w :=
  wpList_store_mid hgd ty x y ho b o cells hx hy (ht.there o _ hs) hi h1 (by rw [hd]; exact h)
theorem wpList_store_new {P : Program} {ops : Array Oper} {rest : List Oper} {op : Oper} {a : Act} {w : World} {Q : Exit → Act → World → Prop} (hgd : op.guard = none) (ty : TypeId) (x y : Operand) (ho : op.op = .store ty x y)
    (c c' : Array Value) (hx : a.eval x = .pointer (some ⟨w.heap.size, 0, none⟩)) (hy : a.eval y = .agg c')
    (hi : (P.info? ty).map (·.size) = some c'.size) (hs : c.size = c'.size) (h1 : c'.all (·.oneCell') = true) (hd : op.dst = none)
    (h : wpList P ops Q rest a (w.alloc (.cells c' ty))) : wpList P ops Q (op :: rest) a (w.alloc (.cells c ty)) :=
  wpList_plain hgd fun _ hK => by
    have := run_storeAt_new (P := P) w ty c c' hi hs h1
    unfold Oper.wp execOp
    simp only [ho, hx, hy, Sem.run_bind, Result.andThen_ok, this]
    exact hK _ _ (by rw [hd]; exact h)
/-- An array value, indexed: its elements of one cell each. -/
theorem run_index_arr {P : Program} {t e : TypeId} {n : Nat} {k : IntKind} (hu : P.underlying t = some (.array n e)) {ke : IntKind} (he : P.underlying e = some (.int ke)) (hi : (P.info? e).map (·.size) = some 1)
    (A : Array Value) (i : Nat) (v : Value) (hn : i < n) (hv : A[i]? = some v) (w : World) : (Instr.index t (.agg A) (.int k (i : Int))).run P w = .ok v w := by
  have h1 : (0 : Int) ≤ (i : Int) ∧ (i : Int) < (n : Int) := ⟨by omega, by omega⟩
  cases hq : P.info? e with
  | none => simp [hq] at hi
  | some q =>
    have hs : q.size = 1 := by simpa [hq] using hi
    simp [Instr.index, asIntOf, run_underlying hu, run_underlying he, part, sizeOf, typeInfo, hq, hs, h1, hn, isAgg, hv]
/-- A slice that is made, of one-cell elements: a block of zero values. -/
theorem wpList_make_cells {P : Program} (w : World) {ops : Array Oper} {rest : List Oper} {o : Oper} {a : Act} {Q : Exit → Act → World → Prop}
    (hg : o.guard = none) (l c : Operand) (t : TypeId) (hop : o.op = Op.makeSlice t l c) (e : TypeId) (z : Value) (h1 : P.underlying t = some (.slice e)) {by' : Nat}
    (h2 : (P.info? e).map (fun i => (i.zero, i.size, i.bytes)) = some (some z, 1, by')) (hz : z.cells = #[z])
    (kl kc : IntKind) (L C : Int) (n : Nat) (hl : a.eval l = .int kl L) (hc : a.eval c = .int kc C) (hL : L = (n : Int)) (hC : C = (n : Int)) (b2 : by' * n ≤ 281474976710656) (b3 : n ≤ maxLen)
    (hK : ∀ w', Own w' w.heap.size (Array.replicate n z) e → w.grownBy w' none → wpList P ops Q rest (a.put o.dst (.slice (some ⟨w.heap.size, 0, none⟩) n n)) w') :
    wpList P ops Q (o :: rest) a w := by
  cases hq : P.info? e with
  | none => simp [hq] at h2
  | some i =>
    simp [hq] at h2
    obtain ⟨e1, e2, e3⟩ := h2
    refine wpList_make_full w hg l c t hop w.heap.size e i z 1 h1 hq e1 e2 kl kc L C n hl hc hL hC (by rw [e3]; exact b2) b3 (Nat.le_refl _) ?_
    rintro w' ⟨h3, h4⟩ hgr
    refine hK w' ?_ hgr
    rcases h4 with ⟨h4, _⟩ | ⟨g, cap, cur, h4, h5, h6, h7, h8, h9, h10⟩
    · simp at h4
    · simp only [Value.slice.injEq, Option.some.injEq, Addr.mk.injEq] at h4
      obtain ⟨⟨rfl, _⟩, _, rfl⟩ := h4
      have : cur = Array.replicate n z := by
        apply Array.ext'
        rw [List.take_of_length_le (by simp; omega)] at h10
        rw [h10, hz]
        apply List.ext_getElem?
        intro j
        simp only [madeCells, Array.toList_map, Array.toList_range, Array.toList_replicate, List.getElem?_map, List.getElem?_replicate]
        by_cases hj : j < n <;> simp [hj, Nat.mod_one]
      rw [this] at h6; exact h6
theorem grown_setRow (w : World) (g : Nat) (cs : Array Value) : w.grownBy (w.setRow g cs) (some g) :=
  ⟨rfl, rfl, rfl, by simp [World.setRow], fun k _ hk => setRow_other w g k cs (fun e => hk (by rw [e]))⟩
/-- copy, from whatever source, into a block of the caller's own: also where nothing goes over. -/
theorem wpList_copy_into {P : Program} {w : World} {ops : Array Oper} {rest : List Oper} {o : Oper} {a : Act} {Q : Exit → Act → World → Prop} (hgd : o.guard = none) (d s : Operand) (dT sT : TypeId)
    (ho : o.op = .call { callee := .builtin .copy, args := #[d, s], argTypes := #[dT, sT] }) (elem : TypeId) (hu : P.underlying dT = some (.slice elem)) (hsz : (P.info? elem).map (·.size) = some 1)
    (dp sp : Option Addr) (dLen dCap sLen sCap : Nat) (hd : a.eval d = .slice dp dLen dCap) (hs : a.eval s = .slice sp sLen sCap)
    (g off n : Nat) (cur : List Value) (t : TypeId) (hg : Own w g cur.toArray t) (cs : List Value) (hl : cs.length = n) (hn : n = Nat.min sLen dLen)
    (hpos : 0 < n → dp = some ⟨g, off, none⟩ ∧ ∃ b o, sp = some ⟨b, o, none⟩ ∧ w.rangeAt b o cs) (hfit : off + n ≤ cur.length) (h1 : ∀ v ∈ cs, v.oneCell' = true)
    (h : ∀ w', Own w' g (splice cur off cs).toArray t → w.grownBy w' (some g) → wpList P ops Q rest (a.put o.dst (.int .i64 n)) w') : wpList P ops Q (o :: rest) a w := by
  subst hl
  by_cases h0 : cs.length = 0
  · obtain rfl : cs = [] := List.eq_nil_of_length_eq_zero h0
    refine wpList_copy_nothing hgd d s dT sT ho elem hu hsz dp sp dLen dCap sLen sCap hd hs (by simpa using hn.symm) ?_
    exact h w (by simpa [splice] using hg) ⟨rfl, rfl, rfl, Nat.le_refl _, fun _ _ _ => rfl⟩
  · obtain ⟨rfl, b, o', rfl, hr⟩ := hpos (by omega)
    refine wpList_copy_own hgd d s dT sT ho elem hu hsz g off dLen dCap ⟨b, o', none⟩ sLen sCap hd hs cur.toArray t hg cs hn (fun j v hv => by rw [Addr.add_mid]; exact hr j v hv) (by simpa using hfit) h1 ?_
    exact h _ (show _ = _ by simpa [splice] using setRow_heap w g _ _ t _ hg) (grown_setRow _ _ _)
end Go.Proofs.YtofoihebhdpjlaaDoor
