/- Small laws on blocks that a call owns, and on rows of cells. -/
import Derived.WalkKit
import Derived.WalkSmall
import Derived.Deep.MidRow
import Derived.Deep.WholeRow
import Derived.Deep.Draws
import Derived.Laws.CopyOwn
import Derived.Laws.StructEq
import Derived.Lib.QuietBelow
import Derived.BigQuiet
import Derived.Orders
import Derived.Deep.Quiet
namespace Go.Proofs.YtaabcllghniaoaaDoor
open Go.RowKit

/-- Block b holds just these cells, and all of them may be written. -/
def Own (w : World) (b : Nat) (A : Array Value) (t : TypeId) : Prop := w.heap[b]? = some (.cells A t (0, 0))
theorem Own.lt {w : World} {b : Nat} {A : Array Value} {t : TypeId} (h : Own w b A t) : b < w.heap.size := (Array.getElem?_eq_some_iff.1 h).1
theorem Own.cell {w : World} {b : Nat} {A : Array Value} {t : TypeId} (h : Own w b A t) {i : Nat} {v : Value} (hv : A[i]? = some v) : w.cell? ⟨b, i, none⟩ = some v := by
  rw [cell_of_row w b i A t (0, 0) h]; exact hv
theorem Own.frozen {w : World} {b : Nat} {A : Array Value} {t : TypeId} (h : Own w b A t) (i : Nat) : w.frozen? ⟨b, i, none⟩ = false := by
  have h' : w.heap[b]? = some (.cells A t (0, 0)) := h
  simp [World.frozen?, h']
theorem Own.below {w w' : World} {b B : Nat} {A : Array Value} {t : TypeId} (h : Own w b A t) (hB : Below B w w') (hb : b < B) : Own w' b A t := by
  unfold Own; rw [hB.block b hb]; exact h
theorem Own.alloc {w : World} {b : Nat} {A : Array Value} {t : TypeId} (h : Own w b A t) (o : Obj) : Own (w.alloc o) b A t := by
  unfold Own; rw [Below.heap_alloc _ _ _ h.lt]; exact h
theorem own_new (w : World) (A : Array Value) (t : TypeId) : Own (w.alloc (.cells A t)) w.heap.size A t := heap_alloc_last w _
theorem Own.drewN {w : World} {b : Nat} {A : Array Value} {t : TypeId} (h : Own w b A t) (n : Nat) : Own (w.drewN n) b A t := h
theorem Own.setCell {w : World} {b : Nat} {A : Array Value} {t : TypeId} (h : Own w b A t) (i : Nat) (v : Value) : Own (w.setCell ⟨b, i, none⟩ v) b (A.setIfInBounds i v) t := by
  have h' : w.heap[b]? = some (.cells A t (0, 0)) := h
  unfold Own World.setCell
  simp only [Array.getElem?_modify, h']
  simp
theorem Own.setCell_other {w : World} {b : Nat} {A : Array Value} {t : TypeId} (h : Own w b A t) {p : Addr} (hp : p.block ≠ b) (v : Value) : Own (w.setCell p v) b A t := by
  unfold Own; rw [Below.heap_setCell _ _ _ _ (Ne.symm hp)]; exact h
theorem Own.range {w : World} {b : Nat} {A : Array Value} {t : TypeId} (h : Own w b A t) : w.rangeAt b 0 A.toList := fun j v hv => by
  rw [Nat.zero_add]; exact h.cell (by simpa using hv)
theorem Own.there {w : World} {b : Nat} {A : Array Value} {t : TypeId} (h : Own w b A t) (o n : Nat) (hn : o + n ≤ A.size) : w.there b o n := fun j hj => by
  refine ⟨?_, h.frozen _⟩
  have hlt : o + j < A.size := by omega
  rw [h.cell (Array.getElem?_eq_getElem hlt)]; rfl

/-- n bytes lie in a block from an offset on. -/
def BytesAt (w : World) (b off n : Nat) (f : Nat → Int) : Prop := ∀ i, i < n → w.cell? ⟨b, off + i, none⟩ = some (.int .u8 (f i)) ∧ 0 ≤ f i ∧ f i < 256
theorem BytesAt.below {w w' : World} {b off n : Nat} {f : Nat → Int} (h : BytesAt w b off n f) (hB : Below w.heap.size w w') : BytesAt w' b off n f := fun i hi => by
  have h1 := (h i hi).1
  refine ⟨?_, (h i hi).2⟩
  rw [hB.cell (World.block_lt_of_cell? w _ h1)]; exact h1
theorem BytesAt.part {w : World} {b off n : Nat} {f : Nat → Int} (h : BytesAt w b off n f) (o m : Nat) (hm : o + m ≤ n) : BytesAt w b (off + o) m (fun i => f (o + i)) := fun i hi => by
  have := h (o + i) (by omega)
  rwa [← Nat.add_assoc] at this

/-- A result that lies in memory, read out of its row of cells. -/
theorem results_cell {P : Program} {fn : Func} {p : Tmp} {ty : TypeId} (h : fn.results = #[.cell p ty]) (tmps : Array Value) (w : World) (b o : Nat) (cs : List Value) (d : TypeDesc)
    (hp : tmps.getD p undef = .pointer (some ⟨b, o, none⟩)) (hc : w.rangeAt b o cs) (hu : P.underlying ty = some d) (hd : d.isRow = true) (hi : (P.info? ty).map (·.size) = some cs.length) :
    (results fn tmps).run P w = .ok (.agg cs.toArray) w := by
  have := run_loadVar_mid w b o ty cs d hc hu hd hi
  have hp' : tmps[p]?.getD undef = .pointer (some ⟨b, o, none⟩) := by simpa using hp
  simp only [results, h]
  simp [hp', asAddr, this]
theorem results_own {P : Program} {fn : Func} {p : Tmp} {ty : TypeId} (h : fn.results = #[.cell p ty]) (tmps : Array Value) (w : World) (b : Nat) (A : Array Value) (d : TypeDesc)
    (hp : tmps.getD p undef = .pointer (some ⟨b, 0, none⟩)) {t : TypeId} (ho : Own w b A t) (hu : P.underlying ty = some d) (hd : d.isRow = true) (hi : (P.info? ty).map (·.size) = some A.size) :
    (results fn tmps).run P w = .ok (.agg A) w :=
  results_cell h tmps w b 0 A.toList d hp ho.range hu hd (by simpa using hi)
theorem Below.setCells {B : Nat} {a : World} : ∀ (vs : List Value) (b o : Nat) (w : World), B ≤ b → Below B a w → Below B a (w.setCells b o vs)
  | [], _, _, _, _, h => h
  | v :: r, b, o, w, hb, h => by
    rw [World.setCells]
    exact Below.setCells r b (o + 1) _ hb (h.setCell hb v)
theorem bcell {W w1 : World} (hb : Below W.heap.size W w1) : (∀ b o, b < W.heap.size → w1.cell? ⟨b, o, none⟩ = W.cell? ⟨b, o, none⟩) ∧ (∀ b o, b < W.heap.size → w1.frozen? ⟨b, o, none⟩ = W.frozen? ⟨b, o, none⟩) :=
  ⟨fun b o h => hb.cell (p := ⟨b, o, none⟩) h, fun b o h => hb.frozen (p := ⟨b, o, none⟩) h⟩

/-- A store of a whole row into a block of the call's own, from its head. -/
theorem setCells_own : ∀ (vs : List Value) (o : Nat) (w : World) (b : Nat) (A : Array Value) (t : TypeId), Own w b A t → ∃ A', Own (w.setCells b o vs) b A' t ∧ A'.size = A.size
  | [], _, _, _, A, _, h => ⟨A, h, rfl⟩
  | v :: r, o, w, b, A, t, h => by
    rw [World.setCells]
    obtain ⟨A', h1, h2⟩ := setCells_own r (o + 1) _ b _ t (h.setCell o v)
    exact ⟨A', h1, by simpa using h2⟩
theorem own_setCells {w : World} {b : Nat} {A B : Array Value} {t : TypeId} (h : Own w b A t) (hs : B.size = A.size) : Own (w.setCells b 0 B.toList) b B t := by
  obtain ⟨A', h1, h2⟩ := setCells_own B.toList 0 w b A t h
  have h3 := World.rangeAt_setCells_same w b 0 B.toList (h.there 0 _ (by simp; omega))
  have : A' = B := by
    apply Array.ext_getElem?
    intro i
    by_cases hi : i < B.size
    · have h4 := h3 i B[i] (by simp [hi])
      rw [Nat.zero_add, cell_of_row _ b i A' t (0, 0) h1] at h4
      rw [h4]; simp [hi]
    · rw [Array.getElem?_eq_none (by omega), Array.getElem?_eq_none (by omega)]
  exact this ▸ h1
theorem Own.setCells_other {b b' : Nat} {A : Array Value} {t : TypeId} (hb : b ≠ b') : ∀ (vs : List Value) (o : Nat) (w : World), Own w b A t → Own (w.setCells b' o vs) b A t
  | [], _, _, h => h
  | v :: r, o, w, h => by
    rw [World.setCells]
    exact Own.setCells_other hb r (o + 1) _ (h.setCell_other (by exact Ne.symm hb) v)

/-- The operations, at a plain region's list. -/
theorem wpList_load_own {P : Program} {ops : Array Oper} {rest : List Oper} {op : Oper} {a : Act} {w : World} {Q : Exit → Act → World → Prop} (hgd : op.guard = none) (ty : TypeId) (x : Operand) (ho : op.op = .load ty x)
    (b : Nat) (hx : a.eval x = .pointer (some ⟨b, 0, none⟩)) (A : Array Value) (d : TypeDesc) {t : TypeId} (hc : Own w b A t)
    (hu : P.underlying ty = some d) (hd : d.isRow = true) (hi : (P.info? ty).map (·.size) = some A.size)
    (h : wpList P ops Q rest (a.put op.dst (.agg A)) w) : wpList P ops Q (op :: rest) a w :=
  wpList_load_mid hgd ty x ho b 0 hx A.toList d hc.range hu hd (by simpa using hi) h
theorem wpList_store_own {P : Program} {ops : Array Oper} {rest : List Oper} {op : Oper} {a : Act} {w : World} {Q : Exit → Act → World → Prop} (hgd : op.guard = none) (ty : TypeId) (x y : Operand) (ho : op.op = .store ty x y)
    (b o : Nat) (cells : Array Value) (hx : a.eval x = .pointer (some ⟨b, o, none⟩)) (hy : a.eval y = .agg cells)
    {A : Array Value} {t : TypeId} (ht : Own w b A t) (hs : o + cells.size ≤ A.size) (hi : (P.info? ty).map (·.size) = some cells.size) (h1 : cells.all (·.oneCell') = true) (hd : op.dst = none)
    (h : wpList P ops Q rest a (w.setCells b o cells.toList)) : wpList P ops Q (op :: rest) a w :=
  wpList_store_mid hgd ty x y ho b o cells hx hy (ht.there o _ hs) hi h1 (by rw [hd]; exact h)
theorem wpList_store_new {P : Program} {ops : Array Oper} {rest : List Oper} {op : Oper} {a : Act} {w : World} {Q : Exit → Act → World → Prop} (hgd : op.guard = none) (ty : TypeId) (x y : Operand) (ho : op.op = .store ty x y)
    (c c' : Array Value) (hx : a.eval x = .pointer (some ⟨w.heap.size, 0, none⟩)) (hy : a.eval y = .agg c')
    (hi : (P.info? ty).map (·.size) = some c'.size) (hs : c.size = c'.size) (h1 : c'.all (·.oneCell') = true) (hd : op.dst = none)
    (h : wpList P ops Q rest a (w.alloc (.cells c' ty))) : wpList P ops Q (op :: rest) a (w.alloc (.cells c ty)) :=
  wpList_plain hgd fun _ hK => by
    have := run_storeAt_new (P := P) w ty c c' hi hs h1
    unfold Oper.wp execOp
    simp only [ho, hx, hy, Sem.run_bind, Result.andThen_ok, this]
    exact hK _ _ (by rw [hd]; exact h)
/-- An array value, indexed: its elements of one cell each. -/
theorem run_index_arr {P : Program} {t e : TypeId} {n : Nat} {k : IntKind} (hu : P.underlying t = some (.array n e)) {ke : IntKind} (he : P.underlying e = some (.int ke)) (hi : (P.info? e).map (·.size) = some 1)
    (A : Array Value) (i : Nat) (v : Value) (hn : i < n) (hv : A[i]? = some v) (w : World) : (Instr.index t (.agg A) (.int k (i : Int))).run P w = .ok v w := by
  have h1 : (0 : Int) ≤ (i : Int) ∧ (i : Int) < (n : Int) := ⟨by omega, by omega⟩
  cases hq : P.info? e with
  | none => simp [hq] at hi
  | some q =>
    have hs : q.size = 1 := by simpa [hq] using hi
    simp [Instr.index, asIntOf, run_underlying hu, run_underlying he, part, sizeOf, typeInfo, hq, hs, h1, hn, isAgg, hv]
/-- A slice that is made, of one-cell elements: a block of zero values. -/
theorem wpList_make_cells {P : Program} (w : World) {ops : Array Oper} {rest : List Oper} {o : Oper} {a : Act} {Q : Exit → Act → World → Prop}
    (hg : o.guard = none) (l c : Operand) (t : TypeId) (hop : o.op = Op.makeSlice t l c) (e : TypeId) (z : Value) (h1 : P.underlying t = some (.slice e)) {by' : Nat}
    (h2 : (P.info? e).map (fun i => (i.zero, i.size, i.bytes)) = some (some z, 1, by')) (hz : z.cells = #[z])
    (kl kc : IntKind) (L C : Int) (n : Nat) (hl : a.eval l = .int kl L) (hc : a.eval c = .int kc C) (hL : L = (n : Int)) (hC : C = (n : Int)) (b2 : by' * n ≤ 281474976710656) (b3 : n ≤ maxLen)
    (hK : ∀ w', Own w' w.heap.size (Array.replicate n z) e → w.grownBy w' none → wpList P ops Q rest (a.put o.dst (.slice (some ⟨w.heap.size, 0, none⟩) n n)) w') :
    wpList P ops Q (o :: rest) a w := by
  cases hq : P.info? e with
  | none => simp [hq] at h2
  | some i =>
    simp [hq] at h2
    obtain ⟨e1, e2, e3⟩ := h2
    refine wpList_make_full w hg l c t hop w.heap.size e i z 1 h1 hq e1 e2 kl kc L C n hl hc hL hC (by rw [e3]; exact b2) b3 (Nat.le_refl _) ?_
    rintro w' ⟨h3, h4⟩ hgr
    refine hK w' ?_ hgr
    rcases h4 with ⟨h4, _⟩ | ⟨g, cap, cur, h4, h5, h6, h7, h8, h9, h10⟩
    · simp at h4
    · simp only [Value.slice.injEq, Option.some.injEq, Addr.mk.injEq] at h4
      obtain ⟨⟨rfl, _⟩, _, rfl⟩ := h4
      have : cur = Array.replicate n z := by
        apply Array.ext'
        rw [List.take_of_length_le (by simp; omega)] at h10
        rw [h10, hz]
        apply List.ext_getElem?
        intro j
        simp only [madeCells, Array.toList_map, Array.toList_range, Array.toList_replicate, List.getElem?_map, List.getElem?_replicate]
        by_cases hj : j < n <;> simp [hj, Nat.mod_one]
      rw [this] at h6; exact h6
theorem grown_setRow (w : World) (g : Nat) (cs : Array Value) : w.grownBy (w.setRow g cs) (some g) :=
  ⟨rfl, rfl, rfl, by simp [World.setRow], fun k _ hk => setRow_other w g k cs (fun e => hk (by rw [e]))⟩
/-- copy, from whatever source, into a block of the caller's own: also where nothing goes over. -/
theorem wpList_copy_into {P : Program} {w : World} {ops : Array Oper} {rest : List Oper} {o : Oper} {a : Act} {Q : Exit → Act → World → Prop} (hgd : o.guard = none) (d s : Operand) (dT sT : TypeId)
    (ho : o.op = .call { callee := .builtin .copy, args := #[d, s], argTypes := #[dT, sT] }) (elem : TypeId) (hu : P.underlying dT = some (.slice elem)) (hsz : (P.info? elem).map (·.size) = some 1)
    (dp sp : Option Addr) (dLen dCap sLen sCap : Nat) (hd : a.eval d = .slice dp dLen dCap) (hs : a.eval s = .slice sp sLen sCap)
    (g off n : Nat) (cur : List Value) (t : TypeId) (hg : Own w g cur.toArray t) (cs : List Value) (hl : cs.length = n) (hn : n = Nat.min sLen dLen)
    (hpos : 0 < n → dp = some ⟨g, off, none⟩ ∧ ∃ b o, sp = some ⟨b, o, none⟩ ∧ w.rangeAt b o cs) (hfit : off + n ≤ cur.length) (h1 : ∀ v ∈ cs, v.oneCell' = true)
    (h : ∀ w', Own w' g (splice cur off cs).toArray t → w.grownBy w' (some g) → wpList P ops Q rest (a.put o.dst (.int .i64 n)) w') : wpList P ops Q (o :: rest) a w := by
  subst hl
  by_cases h0 : cs.length = 0
  · obtain rfl : cs = [] := List.eq_nil_of_length_eq_zero h0
    refine wpList_copy_nothing hgd d s dT sT ho elem hu hsz dp sp dLen dCap sLen sCap hd hs (by simpa using hn.symm) ?_
    exact h w (by simpa [splice] using hg) ⟨rfl, rfl, rfl, Nat.le_refl _, fun _ _ _ => rfl⟩
  · obtain ⟨rfl, b, o', rfl, hr⟩ := hpos (by omega)
    refine wpList_copy_own hgd d s dT sT ho elem hu hsz g off dLen dCap ⟨b, o', none⟩ sLen sCap hd hs cur.toArray t hg cs hn (fun j v hv => by rw [Addr.add_mid]; exact hr j v hv) (by simpa using hfit) h1 ?_
    exact h _ (show _ = _ by simpa [splice] using setRow_heap w g _ _ t _ hg) (grown_setRow _ _ _)
end Go.Proofs.YtaabcllghniaoaaDoor
/- Arrays of numbers held against one another; loads in a region that draws its order. -/
namespace Go.Proofs.YtaabcllghniaoaaDoor
open Go.RowKit

theorem all_range_ints : ∀ (xs ys : List Int), xs.length = ys.length → ((List.range xs.length).all fun i => xs.getD i 0 == ys.getD i 0) = (xs == ys)
  | [], [], _ => rfl
  | x :: xs, y :: ys, h => by
    have ih := all_range_ints xs ys (by simpa using h)
    rw [List.length_cons, List.range_succ_eq_map, List.all_cons, List.all_map]
    simp only [List.getD_cons_zero, Function.comp_def, List.getD_cons_succ, ih]
    simp [List.cons_beq_cons]
  | [], _ :: _, h => by simp at h
  | _ :: _, [], h => by simp at h

/-- Two arrays of numbers of one kind, held against one another. -/
theorem run_equalIn_ints {P : Program} (w : World) (d : Nat) (t e : TypeId) (n : Nat) (k : IntKind) (ht : P.underlying t = some (.array n e)) (he : P.underlying e = some (.int k)) (hi : (P.info? e).map (·.size) = some 1)
    (xs ys : List Int) (hx : xs.length = n) (hy : ys.length = n) :
    (Op.equalIn (d + 2) t (.agg (xs.map (Value.int k)).toArray) (.agg (ys.map (Value.int k)).toArray)).run P w = .ok (xs == ys) w := by
  have hsz : ∀ w, (sizeOf e).run P w = .ok 1 w := fun w => by
    cases hq : P.info? e with
    | none => simp [hq] at hi
    | some q => simp [sizeOf, typeInfo, hq]; simpa [hq] using hi
  rw [← all_range_ints xs ys (hx.trans hy.symm), hx, List.range_eq_range', Op.equalIn]
  simp only [Sem.run_bind, run_underlying ht, Result.andThen_ok, hsz, Std.Legacy.Range.forIn_eq_forIn_range', Std.Legacy.Range.size, Nat.sub_zero, Nat.add_sub_cancel, Nat.div_one]
  have hl : ∀ i ∈ List.range' 0 n 1, i < n := fun i hi => by simpa using (List.mem_range'_1.1 hi).2
  generalize List.range' 0 n 1 = l at hl ⊢
  induction l with
  | nil => simp
  | cons i l ih =>
    have hi : i < n := hl i (by simp)
    have px : (part e (xs.map (Value.int k)).toArray (i * 1)).run P w = .ok (.int k (xs.getD i 0)) w := by
      simp [part, isAgg, run_underlying he, List.getD, List.getElem?_eq_getElem (show i < xs.length by omega)]
    have py : (part e (ys.map (Value.int k)).toArray (i * 1)).run P w = .ok (.int k (ys.getD i 0)) w := by
      simp [part, isAgg, run_underlying he, List.getD, List.getElem?_eq_getElem (show i < ys.length by omega)]
    have pe : (Op.equalIn (d + 1) e (.int k (xs.getD i 0)) (.int k (ys.getD i 0))).run P w = .ok (xs.getD i 0 == ys.getD i 0) w := run_equalIn_int w d e k k _ _ he
    simp only [List.forIn_cons, Sem.run_bind, px, py, pe, Result.andThen_ok, List.all_cons]
    cases hb : (xs.getD i 0 == ys.getD i 0)
    · simp
    · simp only [Bool.not_true, Bool.false_eq_true, if_false, Sem.run_pure, Result.andThen_ok, Bool.true_and]
      exact ih fun j hj => hl j (by simp [hj])

/-- A slice's value, cut at its front. -/
def cutAddr (a : Option Addr) (cap q : Nat) : Option Addr := if cap = q then a else a.map (·.add q)
theorem run_slice_cut {P : Program} (w : World) (t e : TypeId) (hu : P.underlying t = some (.slice e)) (hi : (P.info? e).map (·.size) = some 1) (a : Option Addr) (len cap l h : Nat) (h1 : l ≤ h) (h2 : h ≤ cap) :
    (Instr.sliceAt t (.slice a len cap) (some (.int .i64 (l : Int))) (some (.int .i64 (h : Int))) none).run P w = .ok (.slice (cutAddr a cap l) (h - l) (cap - l)) w := by
  have hsz : ∀ w, (sizeOf e).run P w = .ok 1 w := fun w => by
    cases hq : P.info? e with
    | none => simp [hq] at hi
    | some q => simp [sizeOf, typeInfo, hq]; simpa [hq] using hi
  have e1 : (0 : Int) ≤ (h : Int) ∧ (h : Int) ≤ (cap : Int) := ⟨by omega, by omega⟩
  have e2 : (0 : Int) ≤ (l : Int) ∧ (l : Int) ≤ (h : Int) := ⟨by omega, by omega⟩
  simp [Instr.sliceAt, Instr.slice, run_underlying hu, Instr.sliceBounds, Instr.sliceBound, asIntOf, h1, h2, hsz, cutAddr]
theorem run_slice_from {P : Program} (w : World) (t e : TypeId) (hu : P.underlying t = some (.slice e)) (hi : (P.info? e).map (·.size) = some 1) (a : Option Addr) (len cap l : Nat) (h1 : l ≤ len) :
    (Instr.sliceAt t (.slice a len cap) (some (.int .i64 (l : Int))) none none).run P w = .ok (.slice (cutAddr a cap l) (len - l) (cap - l)) w := by
  have hsz : ∀ w, (sizeOf e).run P w = .ok 1 w := fun w => by
    cases hq : P.info? e with
    | none => simp [hq] at hi
    | some q => simp [sizeOf, typeInfo, hq]; simpa [hq] using hi
  simp [Instr.sliceAt, Instr.slice, run_underlying hu, Instr.sliceBounds, Instr.sliceBound, asIntOf, h1, hsz, cutAddr]
theorem wpList_slice_cut {P : Program} {ops : Array Oper} {rest : List Oper} {op : Oper} {a : Act} {w : World} {Q : Exit → Act → World → Prop} (hgd : op.guard = none) (t : TypeId) (x lo hi : Operand) (ho : op.op = .slice t x (some lo) (some hi) none)
    (e : TypeId) (hu : P.underlying t = some (.slice e)) (hi1 : (P.info? e).map (·.size) = some 1) (A : Option Addr) (len cap l h : Nat) (hx : a.eval x = .slice A len cap) (hlo : a.eval lo = .int .i64 (l : Int)) (hhi : a.eval hi = .int .i64 (h : Int)) (h1 : l ≤ h) (h2 : h ≤ cap)
    (hK : wpList P ops Q rest (a.put op.dst (.slice (cutAddr A cap l) (h - l) (cap - l))) w) : wpList P ops Q (op :: rest) a w :=
  wpList_plain hgd fun _ hK' => by
    unfold Oper.wp
    simp only [execOp, ho, hx, hlo, hhi, Option.map_some, Option.map_none, run_slice_cut w t e hu hi1 A len cap l h h1 h2, Sem.run_bind, Result.andThen_ok]
    exact hK' _ _ hK
theorem wpList_slice_from {P : Program} {ops : Array Oper} {rest : List Oper} {op : Oper} {a : Act} {w : World} {Q : Exit → Act → World → Prop} (hgd : op.guard = none) (t : TypeId) (x lo : Operand) (ho : op.op = .slice t x (some lo) none none)
    (e : TypeId) (hu : P.underlying t = some (.slice e)) (hi1 : (P.info? e).map (·.size) = some 1) (A : Option Addr) (len cap l : Nat) (hx : a.eval x = .slice A len cap) (hlo : a.eval lo = .int .i64 (l : Int)) (h1 : l ≤ len)
    (hK : wpList P ops Q rest (a.put op.dst (.slice (cutAddr A cap l) (len - l) (cap - l))) w) : wpList P ops Q (op :: rest) a w :=
  wpList_plain hgd fun _ hK' => by
    unfold Oper.wp
    simp only [execOp, ho, hx, hlo, Option.map_some, Option.map_none, run_slice_from w t e hu hi1 A len cap l h1, Sem.run_bind, Result.andThen_ok]
    exact hK' _ _ hK

/-- A whole array loaded in a region that draws its order, in every world of the class. -/
theorem quiet_load_own {P : Program} {C : World → Prop} {op : Oper} {a : Act} {K : Act → Prop} (ty : TypeId) (x : Operand) (ho : op.op = .load ty x)
    (b : Nat) (hx : a.eval x = .pointer (some ⟨b, 0, none⟩)) (A : Array Value) (d : TypeDesc) (t : TypeId) (hc : ∀ w, C w → Own w b A t)
    (hu : P.underlying ty = some d) (hd : d.isRow = true) (hi : (P.info? ty).map (·.size) = some A.size) (h : K (a.put op.dst (.agg A))) : op.quiet P a C K := by
  refine ⟨.agg A, fun w hw => ?_, h⟩
  unfold Oper.quietAt execOp
  have := run_loadVar_mid w b 0 ty A.toList d (hc w hw).range hu hd (by simpa using hi)
  simp only [ho, hx, Instr.loadAt, Instr.sureAddr, Sem.run_bind, Sem.run_pure, Result.andThen_ok, this, Oper.quietUpon]
  exact ⟨trivial, trivial⟩
end Go.Proofs.YtaabcllghniaoaaDoor
/- A region that draws its order, walked by an invariant: whatever comes up next keeps it. -/
namespace Go.Proofs.YtaabcllghniaoaaDoor
open Go Go.RowKit

section
variable {P : Program} {ops : Array Oper} {Q : Exit → Act → World → Prop}

theorem getD_flag {L : Array Bool} {j : Nat} (h : L.getD j true = false) : j < L.size ∧ L[j]? = some false := by
  by_cases hj : j < L.size
  · refine ⟨hj, ?_⟩
    simp [Array.getD, hj] at h
    simp [hj, h]
  · simp [Array.getD, hj] at h

theorem wpAny_inv (I : Array Bool → Act → World → Prop)
    (hstep : ∀ (L : Array Bool) (a : Act) (w : World) (i : Nat), L.size = ops.size → I L a w → i ∈ Region.ready .any ops L → wpOp P ops Q i (fun a' w' => I (L.setIfInBounds i true) a' w') a w)
    (hend : ∀ L a w, L.size = ops.size → I L a w → Region.ready .any ops L = [] → Q .normal a w) :
    ∀ (fuel : Nat) (L : Array Bool) (a : Act) (w : World), L.size = ops.size → L.toList.countP (! ·) ≤ fuel → I L a w → wpAny P .any ops Q fuel L a w
  | 0, L, a, w, hs, hc, h => by
    have h0 : Region.ready .any ops L = [] := by
      rw [List.eq_nil_iff_forall_not_mem]
      intro j hj
      obtain ⟨hlt, he⟩ := getD_flag (mem_ready.1 hj).1
      have hm : false ∈ L.toList := by
        rw [List.mem_iff_getElem?]; exact ⟨j, by simpa using he⟩
      have : 0 < L.toList.countP (! ·) := List.countP_pos_iff.2 ⟨false, hm, rfl⟩
      omega
    exact ⟨h0, hend L a w hs h h0⟩
  | fuel + 1, L, a, w, hs, hc, h => ⟨fun h0 => hend L a w hs h h0, fun i hi => by
      obtain ⟨hlt, he⟩ := getD_flag (mem_ready.1 hi).1
      refine wpOp_mono (fun a' w' h' => wpAny_inv I hstep hend fuel _ a' w' (by simpa using hs) ?_ h') (hstep L a w i hs h hi)
      rw [Array.toList_setIfInBounds, List.countP_set (by simpa using hlt)]
      have e2 : L.toList[i]'(by simpa using hlt) = false := by
        have := (Array.getElem?_eq_some_iff.1 he).2
        simpa using this
      have hm : false ∈ L.toList := by
        rw [List.mem_iff_getElem?]; exact ⟨i, by simpa using he⟩
      have : 0 < L.toList.countP (! ·) := List.countP_pos_iff.2 ⟨false, hm, rfl⟩
      rw [e2]
      simp only [Bool.not_false, if_true, Bool.not_true, Bool.false_eq_true, if_false]
      omega⟩

theorem all_listed (hdag : ∀ (i : Nat) (o : Oper), ops[i]? = some o → ∀ e ∈ o.after, Region.binds .any e = true → e.on < i) {L : Array Bool} (hs : L.size = ops.size) (h : Region.ready .any ops L = []) : ∀ i, i < ops.size → L.getD i false = true := by
  intro i
  induction i using Nat.strongRecOn with
  | ind i ih =>
    intro hi
    by_cases hL : L.getD i true = false
    · exfalso
      have : i ∈ Region.ready .any ops L := by
        refine mem_ready.2 ⟨hL, ops[i], by simp [hi], fun e he hbd => ?_⟩
        have := hdag i ops[i] (by simp [hi]) e he hbd
        exact ih e.on this (by omega)
      rw [h] at this; cases this
    · have hi' : i < L.size := by omega
      simp [Array.getD, hi'] at hL ⊢
      exact hL

/-- A region that draws its order, by an invariant of what has come up. -/
theorem wp_region_inv {id : Nat} {a : Act} {w : World} (hm : P.follows .mixedOrders = true) (hdag : ∀ (i : Nat) (o : Oper), ops[i]? = some o → ∀ e ∈ o.after, Region.binds .any e = true → e.on < i)
    (I : (Nat → Bool) → Act → World → Prop) (h0 : I (fun _ => false) a { w with drawn := w.drawn + 1 })
    (hstep : ∀ (L : Nat → Bool) (a : Act) (w : World) (i : Nat) (o : Oper), I L a w → L i = false → ops[i]? = some o → (∀ e ∈ o.after, Region.binds .any e = true → L e.on = true) →
      wpOp P ops Q i (fun a' w' => I (fun j => if j = i then true else L j) a' w') a w)
    (hend : ∀ L a w, (∀ i, i < ops.size → L i = true) → I L a w → Q .normal a w) : (Code.region id ops true).wp P Q a w := by
  refine wp_region_any hm (wpAny_inv (fun L a w => I (fun j => L.getD j false) a w) ?_ ?_ _ _ _ _ (by simp) ?_ ?_)
  · intro L a w i hs h hi
    obtain ⟨hl, o, ho, ha⟩ := mem_ready.1 hi
    obtain ⟨hlt, he⟩ := getD_flag hl
    have e : (fun j => (L.setIfInBounds i true).getD j false) = fun j => if j = i then true else L.getD j false := by
      funext j
      by_cases hj : j = i
      · subst hj; simp [Array.getD, hlt]
      · by_cases hjl : j < L.size
        · simp [Array.getD, hjl, hj, Ne.symm hj]
        · simp [Array.getD, hjl, hj]
    simp only [e]
    refine hstep _ a w i o h ?_ ho ha
    simp [Array.getD, hlt] at hl ⊢; exact hl
  · intro L a w hs h hr
    exact hend _ a w (fun i hi => all_listed hdag hs hr i hi) h
  · simp [List.countP_replicate]
  · have e : (fun j => (Array.replicate ops.size false).getD j false) = fun _ => false := by
      funext j
      by_cases hj : j < ops.size
      · simp [Array.getD, hj]
      · simp [Array.getD, hj]
    simp only [e]; exact h0

/-- What stands while a region's operations come up: the class of worlds, the frame's other slots, and of each value that is there a fact. -/
structure Facts (ops : Array Oper) (a0 : Act) (C : World → Prop) (F : Nat → (Nat → Bool) → Value → World → Prop) (L : Nat → Bool) (a : Act) (w : World) : Prop where
  cls : C w
  size : a.tmps.size = a0.tmps.size
  defers : a.defers = a0.defers
  old : ∀ s, (∀ (i : Nat) (o : Oper), ops[i]? = some o → o.dst ≠ some s) → a.tmps.getD s undef = a0.tmps.getD s undef
  fact : ∀ (i : Nat) (o : Oper) d, ops[i]? = some o → o.dst = some d → L i = true → F i L (a.tmps.getD d undef) w

theorem getD_put_same (a : Act) (d : Nat) (v : Value) (h : d < a.tmps.size) : (a.put (some d) v).tmps.getD d undef = v := by
  simp [Act.put, Array.getD, h]
theorem getD_put_other (a : Act) (d s : Nat) (v : Value) (h : d ≠ s) : (a.put (some d) v).tmps.getD s undef = a.tmps.getD s undef := by
  by_cases hs : s < a.tmps.size
  · simp [Act.put, Array.getD, hs, h]
  · simp [Act.put, Array.getD, hs]
theorem size_put (a : Act) (d : Option Tmp) (v : Value) : (a.put d v).tmps.size = a.tmps.size := by
  cases d <;> simp [Act.put]

/-- A region that draws its order, each of whose operations is wanted and leaves a value with its fact. -/
theorem wp_region_facts {id : Nat} {a0 : Act} {w0 : World} (hm : P.follows .mixedOrders = true) (hdag : ∀ (i : Nat) (o : Oper), ops[i]? = some o → ∀ e ∈ o.after, e.on < i)
    (hdst : ∀ (i : Nat) (o : Oper), ops[i]? = some o → ∃ d, o.dst = some d ∧ d < a0.tmps.size) (hinj : ∀ (i j : Nat) (o o' : Oper), ops[i]? = some o → ops[j]? = some o' → o.dst = o'.dst → i = j)
    (C : World → Prop) (F : Nat → (Nat → Bool) → Value → World → Prop) (hC : C { w0 with drawn := w0.drawn + 1 })
    (hstep : ∀ (L : Nat → Bool) (a : Act) (w : World) (i : Nat) (o : Oper), Facts ops a0 C F L a w → L i = false → ops[i]? = some o → (∀ e ∈ o.after, Region.binds .any e = true → L e.on = true) →
      Region.wanted o (yielded ops a.tmps) = true ∧
      o.wp P a w (fun a' w' => ∃ v, a' = a.put o.dst v ∧ C w' ∧ F i (fun j => if j = i then true else L j) v w' ∧ ∀ j u, L j = true → F j L u w → F j (fun j => if j = i then true else L j) u w') Q)
    (hend : ∀ L a w, (∀ i, i < ops.size → L i = true) → Facts ops a0 C F L a w → Q .normal a w) : (Code.region id ops true).wp P Q a0 w0 := by
  refine wp_region_inv hm (fun i o ho e he _ => hdag i o ho e he) (Facts ops a0 C F) ⟨hC, rfl, rfl, fun _ _ => rfl, fun _ _ _ _ _ h => by cases h⟩ ?_ hend
  intro L a w i o hF hL ho hd
  obtain ⟨hw, hwp⟩ := hstep L a w i o hF hL ho hd
  obtain ⟨d, hod, hds⟩ := hdst i o ho
  unfold wpOp
  simp only [ho, hw, if_true]
  refine .inl (Oper.wp_mono (fun a' w' ⟨v, e, hc, hf, hk⟩ => ?_) hwp)
  subst e
  refine ⟨hc, by rw [size_put]; exact hF.size, by rw [hod]; exact hF.defers, fun s hs => ?_, fun j oj dj hj hjd hLj => ?_⟩
  · rw [hod, getD_put_other _ _ _ _ (fun e => hs i o ho (by rw [hod, e]))]; exact hF.old s hs
  · by_cases hji : j = i
    · subst hji
      obtain rfl : o = oj := Option.some.inj (ho.symm.trans hj)
      obtain rfl : d = dj := Option.some.inj (hod.symm.trans hjd)
      rw [hod, getD_put_same _ _ _ (by rw [hF.size]; exact hds)]; exact hf
    · have hne : d ≠ dj := fun e => hji (hinj j i oj o hj ho (by rw [hod, hjd, e]))
      rw [hod, getD_put_other _ _ _ _ hne]
      have hLj' : L j = true := by simpa [hji] using hLj
      exact hk j _ hLj' (hF.fact j oj dj hj hjd hLj')

/-- Each operation waits for earlier ones alone, has a slot among the frame's, and no other has that slot. -/
def plainB (ops : Array Oper) (n : Nat) : Bool :=
  (List.range ops.size).all fun i => match ops[i]? with
    | none => true
    | some o => o.after.toList.all (fun e => decide (e.on < i)) && (match o.dst with | none => false | some d => decide (d < n)) &&
      (List.range ops.size).all fun j => i == j || (match ops[j]? with | none => true | some o' => o.dst != o'.dst)
theorem plainB_spec {n : Nat} (h : plainB ops n = true) (i : Nat) (o : Oper) (ho : ops[i]? = some o) :
    (∀ e ∈ o.after, e.on < i) ∧ (∃ d, o.dst = some d ∧ d < n) ∧ ∀ (j : Nat) (o' : Oper), ops[j]? = some o' → o.dst = o'.dst → i = j := by
  have hi : i < ops.size := (Array.getElem?_eq_some_iff.1 ho).1
  unfold plainB at h
  rw [List.all_eq_true] at h
  have h1 := h i (List.mem_range.2 hi)
  rw [ho] at h1
  simp only [Bool.and_eq_true] at h1
  obtain ⟨⟨h2, h3⟩, h4⟩ := h1
  refine ⟨fun e he => ?_, ?_, fun j o' hj e => ?_⟩
  · rw [List.all_eq_true] at h2
    simpa using h2 e (by simpa using he)
  · cases hd : o.dst with
    | none => simp [hd] at h3
    | some d => exact ⟨d, rfl, by simpa [hd] using h3⟩
  · rw [List.all_eq_true] at h4
    have h5 := h4 j (List.mem_range.2 (Array.getElem?_eq_some_iff.1 hj).1)
    rw [hj] at h5
    simpa [e] using h5
theorem wanted_free {o : Oper} {f : Nat → Option Bool} (h : o.guard = none) : Region.wanted o f = true := by simp [Region.wanted, h]
theorem wanted_true {o og : Oper} {a : Act} {g d : Nat} (h : o.guard = some (g, true)) (hg : ops[g]? = some og) (hd : og.dst = some d) (hv : a.tmps.getD d undef = .bool true) : Region.wanted o (yielded ops a.tmps) = true := by
  have h1 : a.tmps[d]? = some (.bool true) := by
    by_cases hs : d < a.tmps.size
    · simp [Array.getD, hs] at hv; simp [hs, hv]
    · simp [Array.getD, hs, undef] at hv
  simp [Region.wanted, h, yielded, hg, hd, h1]
end

/-- What stands while a region's operations come up, where facts outlive whatever makes memory. -/
theorem wp_region_stable {P : Program} {ops : Array Oper} {Q : Exit → Act → World → Prop} {id : Nat} {a0 : Act} {w0 : World} (n : Nat) (hm : P.follows .mixedOrders = true) (hp : plainB ops n = true) (hn : a0.tmps.size = n)
    (F : Nat → Value → World → Prop) (hF : ∀ i v w w', Below w.heap.size w w' → F i v w → F i v w')
    (hstep : ∀ (L : Nat → Bool) (a : Act) (w : World) (i : Nat) (o : Oper), Facts ops a0 (Below w0.heap.size w0) (fun i _ v w => F i v w) L a w → ops[i]? = some o → (∀ e ∈ o.after, Region.binds .any e = true → L e.on = true) →
      Region.wanted o (yielded ops a.tmps) = true ∧ ∀ K : Act → World → Prop, (∀ v w', Below w.heap.size w w' → F i v w' → K (a.put o.dst v) w') → o.wp P a w K Q)
    (hend : ∀ L a w, (∀ i, i < ops.size → L i = true) → Facts ops a0 (Below w0.heap.size w0) (fun i _ v w => F i v w) L a w → Q .normal a w) : (Code.region id ops true).wp P Q a0 w0 := by
  subst hn
  refine wp_region_facts hm (fun i o ho => (plainB_spec hp i o ho).1) (fun i o ho => (plainB_spec hp i o ho).2.1) (fun i j o o' ho ho' e => (plainB_spec hp i o ho).2.2 j o' ho' e) _ _ ((Below.refl _ _).drew) ?_ hend
  intro L a w i o hf _ ho hd
  obtain ⟨h1, h2⟩ := hstep L a w i o hf ho hd
  exact ⟨h1, h2 _ fun v w' hB hv => ⟨v, rfl, hf.cls.trans (hB.mono hf.cls.size), hv, fun j u _ hu => hF j u w w' hB hu⟩⟩
theorem dep {after : Array Edge} {L : Nat → Bool} (hd : ∀ e ∈ after, Region.binds .any e = true → L e.on = true) (k : Nat) (h : (after.toList.any fun e => e.on == k && Region.binds .any e) = true) : L k = true := by
  obtain ⟨e, he, h1⟩ := List.any_eq_true.1 h
  simp only [Bool.and_eq_true, beq_iff_eq] at h1
  rw [← h1.1]; exact hd e (by simpa using he) h1.2
theorem slot {ops : Array Oper} {a0 : Act} {C : World → Prop} {F : Nat → (Nat → Bool) → Value → World → Prop} {L : Nat → Bool} {a : Act} {w : World} (h : Facts ops a0 C F L a w) (s : Nat) (hB : (ops.toList.all fun o => o.dst != some s) = true) : a.tmps.getD s undef = a0.tmps.getD s undef := by
  refine h.old s fun i o ho e => ?_
  have := List.all_eq_true.1 hB o (by rw [List.mem_iff_getElem?]; exact ⟨i, by simpa using ho⟩)
  simp [e] at this
theorem wp_load_own {P : Program} {op : Oper} {a : Act} {w : World} {K : Act → World → Prop} {Q : Exit → Act → World → Prop} (ty : TypeId) (x : Operand) (ho : op.op = .load ty x)
    (b : Nat) (hx : a.eval x = .pointer (some ⟨b, 0, none⟩)) (A : Array Value) (d : TypeDesc) (t : TypeId) (hc : Own w b A t)
    (hu : P.underlying ty = some d) (hd : d.isRow = true) (hi : (P.info? ty).map (·.size) = some A.size) (h : K (a.put op.dst (.agg A)) w) : op.wp P a w K Q := by
  unfold Oper.wp execOp
  have := run_loadVar_mid w b 0 ty A.toList d hc.range hu hd (by simpa using hi)
  simp only [ho, hx, Instr.loadAt, Instr.sureAddr, Sem.run_bind, Sem.run_pure, Result.andThen_ok, this, Oper.upon]
  exact h
theorem wp_slice_cut {P : Program} {op : Oper} {a : Act} {w : World} {K : Act → World → Prop} {Q : Exit → Act → World → Prop} (t : TypeId) (x lo hi : Operand) (ho : op.op = .slice t x (some lo) (some hi) none)
    (e : TypeId) (hu : P.underlying t = some (.slice e)) (hi1 : (P.info? e).map (·.size) = some 1) (A : Option Addr) (len cap l h : Nat) (hx : a.eval x = .slice A len cap) (hlo : a.eval lo = .int .i64 (l : Int)) (hhi : a.eval hi = .int .i64 (h : Int)) (h1 : l ≤ h) (h2 : h ≤ cap)
    (hK : K (a.put op.dst (.slice (cutAddr A cap l) (h - l) (cap - l))) w) : op.wp P a w K Q := by
  unfold Oper.wp
  simp only [execOp, ho, hx, hlo, hhi, Option.map_some, Option.map_none, run_slice_cut w t e hu hi1 A len cap l h h1 h2, Sem.run_bind, Result.andThen_ok]
  exact hK
theorem wp_slice_from {P : Program} {op : Oper} {a : Act} {w : World} {K : Act → World → Prop} {Q : Exit → Act → World → Prop} (t : TypeId) (x lo : Operand) (ho : op.op = .slice t x (some lo) none none)
    (e : TypeId) (hu : P.underlying t = some (.slice e)) (hi1 : (P.info? e).map (·.size) = some 1) (A : Option Addr) (len cap l : Nat) (hx : a.eval x = .slice A len cap) (hlo : a.eval lo = .int .i64 (l : Int)) (h1 : l ≤ len)
    (hK : K (a.put op.dst (.slice (cutAddr A cap l) (len - l) (cap - l))) w) : op.wp P a w K Q := by
  unfold Oper.wp
  simp only [execOp, ho, hx, hlo, Option.map_some, Option.map_none, run_slice_from w t e hu hi1 A len cap l h1, Sem.run_bind, Result.andThen_ok]
  exact hK
end Go.Proofs.YtaabcllghniaoaaDoor
/- A region that draws its order, walked by the values that its operations leave: behind it the frame is known again. -/
namespace Go.Proofs.YtaabcllghniaoaaDoor
open Go Go.RowKit

section
variable {P : Program} {ops : Array Oper} {Q : Exit → Act → World → Prop}

/-- The frame with each operation's value in its slot. -/
def putAll (val : Nat → Value) : Nat → List Oper → Act → Act
  | _, [], a => a
  | i, o :: r, a => putAll val (i + 1) r (a.put o.dst (val i))
theorem putAll_size (val : Nat → Value) : ∀ (r : List Oper) (i : Nat) (a : Act), (putAll val i r a).tmps.size = a.tmps.size
  | [], _, _ => rfl
  | o :: r, i, a => by rw [putAll, putAll_size val r, size_put]
theorem defers_put (a : Act) (d : Option Tmp) (v : Value) : (a.put d v).defers = a.defers := by cases d <;> rfl
theorem putAll_defers (val : Nat → Value) : ∀ (r : List Oper) (i : Nat) (a : Act), (putAll val i r a).defers = a.defers
  | [], _, _ => rfl
  | o :: r, i, a => by rw [putAll, putAll_defers val r, defers_put]
theorem getD_put_ne (a : Act) (d : Option Tmp) (s : Nat) (v : Value) (h : d ≠ some s) : (a.put d v).tmps.getD s undef = a.tmps.getD s undef := by
  cases d with
  | none => rfl
  | some d => exact getD_put_other a d s v (fun e => h (by rw [e]))
theorem putAll_other (val : Nat → Value) (s : Nat) : ∀ (r : List Oper) (i : Nat) (a : Act), (∀ o ∈ r, o.dst ≠ some s) → (putAll val i r a).tmps.getD s undef = a.tmps.getD s undef
  | [], _, _, _ => rfl
  | o :: r, i, a, h => by
    rw [putAll, putAll_other val s r (i + 1) _ (fun o' ho => h o' (by simp [ho])), getD_put_ne _ _ _ _ (h o (by simp))]
theorem putAll_at (val : Nat → Value) (s : Nat) : ∀ (r : List Oper) (i : Nat) (a : Act) (j : Nat) (o : Oper), s < a.tmps.size → r[j]? = some o → o.dst = some s → (∀ k o', r[k]? = some o' → o'.dst = some s → k = j) → (putAll val i r a).tmps.getD s undef = val (i + j)
  | [], _, _, _, _, _, hj, _, _ => by simp at hj
  | o :: r, i, a, 0, o', hs, hj, hd, hu => by
    obtain rfl : o = o' := by simpa using hj
    rw [putAll, putAll_other val s r (i + 1) _ (fun o' ho e => ?_), hd, getD_put_same _ _ _ hs, Nat.add_zero]
    obtain ⟨k, hk⟩ := List.mem_iff_getElem?.1 ho
    have := hu (k + 1) o' (by simpa using hk) e
    omega
  | o :: r, i, a, j + 1, o', hs, hj, hd, hu => by
    rw [putAll, putAll_at val s r (i + 1) _ j o' (by rw [size_put]; exact hs) (by simpa using hj) hd (fun k o'' hk he => by
      have := hu (k + 1) o'' (by simpa using hk) he
      omega)]
    rw [Nat.add_assoc, Nat.add_comm 1]
theorem act_ext {a b : Act} (hs : a.tmps.size = b.tmps.size) (hd : a.defers = b.defers) (h : ∀ s, s < a.tmps.size → a.tmps.getD s undef = b.tmps.getD s undef) : a = b := by
  obtain ⟨t, d⟩ := a
  obtain ⟨t', d'⟩ := b
  simp only at hs hd h
  subst hd
  congr 1
  apply Array.ext hs
  intro i h1 h2
  have := h i h1
  simpa [Array.getD, h1, h2] using this

/-- What stands while a region's operations come up. -/
structure Vals (ops : Array Oper) (a0 : Act) (val : Nat → Value) (J : (Nat → Bool) → World → Prop) (L : Nat → Bool) (a : Act) (w : World) : Prop where
  j : J L w
  size : a.tmps.size = a0.tmps.size
  defers : a.defers = a0.defers
  closed : ∀ (i : Nat) (o : Oper), ops[i]? = some o → L i = true → ∀ e ∈ o.after, Region.binds .any e = true → L e.on = true
  old : ∀ s, (∀ (i : Nat) (o : Oper), ops[i]? = some o → o.dst = some s → L i = false) → a.tmps.getD s undef = a0.tmps.getD s undef
  fact : ∀ (i : Nat) (o : Oper) d, ops[i]? = some o → o.dst = some d → L i = true → a.tmps.getD d undef = val i

/-- Each operation waits for earlier ones alone; its slot, if it has one, is among the frame's, and no other has that slot. -/
def plainC (ops : Array Oper) (n : Nat) : Bool :=
  (List.range ops.size).all fun i => match ops[i]? with
    | none => true
    | some o => o.after.toList.all (fun e => !Region.binds .any e || decide (e.on < i)) && (match o.dst with | none => true | some d => decide (d < n)) &&
      (List.range ops.size).all fun j => i == j || o.dst == none || (match ops[j]? with | none => true | some o' => o.dst != o'.dst)
theorem plainC_spec {n : Nat} (h : plainC ops n = true) (i : Nat) (o : Oper) (ho : ops[i]? = some o) :
    (∀ e ∈ o.after, Region.binds .any e = true → e.on < i) ∧ (∀ d, o.dst = some d → d < n) ∧ ∀ (j : Nat) (o' : Oper) d, ops[j]? = some o' → o.dst = some d → o'.dst = some d → i = j := by
  have hi : i < ops.size := (Array.getElem?_eq_some_iff.1 ho).1
  unfold plainC at h
  rw [List.all_eq_true] at h
  have h1 := h i (List.mem_range.2 hi)
  rw [ho] at h1
  simp only [Bool.and_eq_true] at h1
  obtain ⟨⟨h2, h3⟩, h4⟩ := h1
  refine ⟨fun e he hbd => ?_, fun d hd => ?_, fun j o' d hj e e' => ?_⟩
  · rw [List.all_eq_true] at h2
    simpa [hbd] using h2 e (by simpa using he)
  · simpa [hd] using h3
  · rw [List.all_eq_true] at h4
    have h5 := h4 j (List.mem_range.2 (Array.getElem?_eq_some_iff.1 hj).1)
    rw [hj] at h5
    simpa [e, e'] using h5

/-- A region that draws its order, by the values that its operations leave in whatever order. -/
theorem wp_region_vals {id : Nat} {a0 : Act} {w0 : World} (n : Nat) (hm : P.follows .mixedOrders = true) (hp : plainC ops n = true) (hn : a0.tmps.size = n)
    (val : Nat → Value) (J : (Nat → Bool) → World → Prop) (h0 : J (fun _ => false) { w0 with drawn := w0.drawn + 1 })
    (hstep : ∀ (L : Nat → Bool) (a : Act) (w : World) (i : Nat) (o : Oper), Vals ops a0 val J L a w → L i = false → ops[i]? = some o → (∀ e ∈ o.after, Region.binds .any e = true → L e.on = true) →
      ∀ K : Act → World → Prop, (∀ v w', (o.dst = none ∨ v = val i) → J (fun j => if j = i then true else L j) w' → K (a.put o.dst v) w') → wpOp P ops Q i K a w)
    (hend : ∀ L w, (∀ i, i < ops.size → L i = true) → J L w → Q .normal (putAll val 0 ops.toList a0) w) : (Code.region id ops true).wp P Q a0 w0 := by
  subst hn
  refine wp_region_inv hm (fun i o ho => (plainC_spec hp i o ho).1) (Vals ops a0 val J) ⟨h0, rfl, rfl, fun _ _ _ h => by (cases h), fun _ _ => rfl, fun _ _ _ _ _ h => by (cases h)⟩ ?_ ?_
  · intro L a w i o hF hL ho hd
    refine hstep L a w i o hF hL ho hd _ fun v w' hv hj => ?_
    refine ⟨hj, by rw [size_put]; exact hF.size, by rw [defers_put]; exact hF.defers, fun k ok hk hLk e he hb => ?_, fun s hs => ?_, fun k ok d hk hkd hLk => ?_⟩
    · by_cases hki : k = i
      · subst hki
        obtain rfl : o = ok := Option.some.inj (ho.symm.trans hk)
        show (if e.on = k then true else L e.on) = true
        rw [hd e he hb]; simp
      · have : L k = true := by simpa [hki] using hLk
        show (if e.on = i then true else L e.on) = true
        rw [hF.closed k ok hk this e he hb]; simp
    · have hds : o.dst ≠ some s := fun e => by
        have := hs i o ho e
        simp at this
      rw [getD_put_ne _ _ _ _ hds]
      refine hF.old s fun k ok hk hkd => ?_
      have := hs k ok hk hkd
      by_cases hki : k = i
      · simp [hki] at this
      · simpa [hki] using this
    · by_cases hki : k = i
      · subst hki
        obtain rfl : o = ok := Option.some.inj (ho.symm.trans hk)
        rw [hkd, getD_put_same _ _ _ (by rw [hF.size]; exact (plainC_spec hp k o ho).2.1 d hkd)]
        exact hv.resolve_left (by rw [hkd]; simp)
      · have hLk' : L k = true := by simpa [hki] using hLk
        rw [getD_put_ne _ _ _ _ (fun e => hki ((plainC_spec hp k ok hk).2.2 i o d ho hkd e))]
        exact hF.fact k ok d hk hkd hLk'
  · intro L a w hL hF
    have : a = putAll val 0 ops.toList a0 := by
      refine act_ext (by rw [putAll_size]; exact hF.size) (by rw [putAll_defers]; exact hF.defers) fun s hs => ?_
      by_cases h : ∃ (i : Nat) (o : Oper), ops[i]? = some o ∧ o.dst = some s
      · obtain ⟨i, o, ho, hd⟩ := h
        rw [hF.fact i o s ho hd (hL i (Array.getElem?_eq_some_iff.1 ho).1)]
        have := putAll_at val s ops.toList 0 a0 i o (by rw [← hF.size]; exact hs) (by simpa using ho) hd (fun k o' hk he => ((plainC_spec hp i o ho).2.2 k o' s (by simpa using hk) hd he).symm)
        rw [this, Nat.zero_add]
      · rw [putAll_other val s _ _ _ (fun o ho e => h (by
          obtain ⟨i, hi⟩ := List.mem_iff_getElem?.1 ho
          exact ⟨i, o, by simpa using hi, e⟩))]
        exact hF.old s fun i o ho hd => absurd ⟨i, o, ho, hd⟩ h
    rw [this]
    exact hend L w hL hF.j
/-- The step that is wanted, and the one that is passed over. -/
theorem step_do {a : Act} {w : World} {i : Nat} {o : Oper} {K : Act → World → Prop} (ho : ops[i]? = some o) (hw : Region.wanted o (yielded ops a.tmps) = true) (h : o.wp P a w K Q) : wpOp P ops Q i K a w := by
  unfold wpOp; simp only [ho, hw, if_true]; exact .inl h
theorem step_pass {a : Act} {w : World} {i : Nat} {o : Oper} {K : Act → World → Prop} (ho : ops[i]? = some o) (hw : Region.wanted o (yielded ops a.tmps) = false) (h : K (a.put o.dst undef) w) : wpOp P ops Q i K a w := by
  unfold wpOp; simp only [ho, hw, Bool.false_eq_true, if_false]; exact h
theorem wanted_not {o og : Oper} {a : Act} {g d : Nat} {b b' : Bool} (h : o.guard = some (g, b)) (hg : ops[g]? = some og) (hd : og.dst = some d) (hv : a.tmps.getD d undef = .bool b') (hb : b ≠ b') : Region.wanted o (yielded ops a.tmps) = false := by
  have h1 : a.tmps[d]? = some (.bool b') := by
    by_cases hs : d < a.tmps.size
    · simp [Array.getD, hs] at hv; simp [hs, hv]
    · simp [Array.getD, hs, undef] at hv
  simp [Region.wanted, h, yielded, hg, hd, h1, Ne.symm hb]
theorem wanted_so {o og : Oper} {a : Act} {g d : Nat} {b : Bool} (h : o.guard = some (g, b)) (hg : ops[g]? = some og) (hd : og.dst = some d) (hv : a.tmps.getD d undef = .bool b) : Region.wanted o (yielded ops a.tmps) = true := by
  have h1 : a.tmps[d]? = some (.bool b) := by
    by_cases hs : d < a.tmps.size
    · simp [Array.getD, hs] at hv; simp [hs, hv]
    · simp [Array.getD, hs, undef] at hv
  simp [Region.wanted, h, yielded, hg, hd, h1]
/-- A slot that holds what it held ahead of the region: whatever writes it waits for operation i, which has not come up. -/
theorem slotv {a0 : Act} {val : Nat → Value} {J : (Nat → Bool) → World → Prop} {L : Nat → Bool} {a : Act} {w : World} (h : Vals ops a0 val J L a w) (i : Nat) (hi : L i = false) (s : Nat)
    (hB : (ops.toList.all fun o => o.dst != some s || o.after.toList.any fun e => e.on == i && Region.binds .any e) = true) : a.tmps.getD s undef = a0.tmps.getD s undef := by
  refine h.old s fun k o ho e => ?_
  have h1 := List.all_eq_true.1 hB o (by rw [List.mem_iff_getElem?]; exact ⟨k, by simpa using ho⟩)
  simp only [e, bne_self_eq_false, Bool.false_or] at h1
  cases hk : L k with
  | false => rfl
  | true =>
    obtain ⟨ed, he, h2⟩ := List.any_eq_true.1 h1
    simp only [Bool.and_eq_true, beq_iff_eq] at h2
    have := h.closed k o ho hk ed (by simpa using he) h2.2
    rw [h2.1, hi] at this
    cases this
/-- The value of an operation that this one waits for. -/
theorem valv {a0 : Act} {val : Nat → Value} {J : (Nat → Bool) → World → Prop} {L : Nat → Bool} {a : Act} {w : World} (h : Vals ops a0 val J L a w) {after : Array Edge} (hd : ∀ e ∈ after, Region.binds .any e = true → L e.on = true) (k : Nat) {o : Oper} {s : Nat} (ho : ops[k]? = some o) (hs : o.dst = some s)
    (hB : (after.toList.any fun e => e.on == k && Region.binds .any e) = true) : a.tmps.getD s undef = val k := h.fact k o s ho hs (dep hd k hB)
end
end Go.Proofs.YtaabcllghniaoaaDoor
/- Regions that draw their order and make memory; blocks that are kept. -/
namespace Go.Proofs.YtaabcllghniaoaaDoor
open Go Go.RowKit

section
variable {P : Program} {ops : Array Oper} {Q : Exit → Act → World → Prop}
theorem notyet {a0 : Act} {val : Nat → Value} {J : (Nat → Bool) → World → Prop} {L : Nat → Bool} {a : Act} {w : World} (h : Vals ops a0 val J L a w) (i : Nat) (hi : L i = false) (k : Nat) {o : Oper} (ho : ops[k]? = some o)
    (hB : (o.after.toList.any fun e => e.on == i && Region.binds .any e) = true) : L k = false := by
  cases hk : L k with
  | false => rfl
  | true =>
    obtain ⟨ed, he, h2⟩ := List.any_eq_true.1 hB
    simp only [Bool.and_eq_true, beq_iff_eq] at h2
    have := h.closed k o ho hk ed (by simpa using he) h2.2
    rw [h2.1, hi] at this
    cases this
theorem wp_store_own {op : Oper} {a : Act} {w : World} {K : Act → World → Prop} (ty : TypeId) (x y : Operand) (ho : op.op = .store ty x y)
    (b : Nat) (cells : Array Value) (hx : a.eval x = .pointer (some ⟨b, 0, none⟩)) (hy : a.eval y = .agg cells)
    {A : Array Value} {t : TypeId} (ht : Own w b A t) (hs : cells.size = A.size) (hi : (P.info? ty).map (·.size) = some cells.size) (h1 : cells.all (·.oneCell') = true) (hd : op.dst = none)
    (h : K a (w.setCells b 0 cells.toList)) : op.wp P a w K Q :=
  wp_store_mid ty x y ho b 0 cells hx hy (ht.there 0 _ (by omega)) hi h1 (by rw [hd]; exact h)

/-- What stands while a region's operations come up, whose values are known by facts. -/
structure Told (ops : Array Oper) (a0 : Act) (F : Nat → Value → Prop) (J : (Nat → Bool) → (Nat → Value) → World → Prop) (L : Nat → Bool) (vs : Nat → Value) (a : Act) (w : World) : Prop where
  j : J L vs w
  size : a.tmps.size = a0.tmps.size
  defers : a.defers = a0.defers
  closed : ∀ (i : Nat) (o : Oper), ops[i]? = some o → L i = true → ∀ e ∈ o.after, Region.binds .any e = true → L e.on = true
  old : ∀ s, (∀ (i : Nat) (o : Oper), ops[i]? = some o → o.dst = some s → L i = false) → a.tmps.getD s undef = a0.tmps.getD s undef
  fact : ∀ (i : Nat) (o : Oper) d, ops[i]? = some o → o.dst = some d → L i = true → a.tmps.getD d undef = vs i ∧ F i (vs i)
/-- What a region asks: that whatever holds ahead of it, and is kept by each of its operations as it comes up, leads to its end. -/
def Runs (P : Program) (ops : Array Oper) (Q : Exit → Act → World → Prop) (a0 : Act) (w1 : World) (G : Prop) : Prop :=
  (∀ (i : Nat) (o : Oper), ops[i]? = some o → ∀ e ∈ o.after, Region.binds .any e = true → e.on < i) → ∀ I : (Nat → Bool) → Act → World → Prop, I (fun _ => false) a0 w1 →
    (∀ (L : Nat → Bool) (a : Act) (w : World) (i : Nat) (o : Oper), I L a w → L i = false → ops[i]? = some o → (∀ e ∈ o.after, Region.binds .any e = true → L e.on = true) → wpOp P ops Q i (fun a' w' => I (fun j => if j = i then true else L j) a' w') a w) →
    (∀ L a w, (∀ i, i < ops.size → L i = true) → I L a w → Q .normal a w) → G
theorem runs_draw {id : Nat} {a0 : Act} {w0 : World} (hm : P.follows .mixedOrders = true) : Runs P ops Q a0 { w0 with drawn := w0.drawn + 1 } ((Code.region id ops true).wp P Q a0 w0) := fun hdag I h0 hs he => wp_region_inv hm hdag I h0 hs he
theorem runs_row {id : Nat} {a0 : Act} {w0 : World} : Runs P ops Q a0 w0 ((Code.region id ops false).wp P Q a0 w0) := fun hdag I h0 hs he => by
  have key : ∀ (m k : Nat) (a : Act) (w : World), k + m = ops.size → I (fun j => decide (j < k)) a w → wpOps P ops Q (List.range' k m) a w := by
    intro m
    induction m with
    | zero => exact fun k a w hk h => he _ a w (fun i hi => decide_eq_true (by omega)) h
    | succ m ih =>
      intro k a w hk h
      have hkl : k < ops.size := by omega
      rw [List.range'_succ, wpOps_cons]
      refine wpOp_mono (fun a' w' h' => ih (k + 1) a' w' (by omega) ?_) (hs _ a w k ops[k] h (decide_eq_false (by omega)) (by simp [hkl]) fun e he hb => decide_eq_true (hdag k ops[k] (by simp [hkl]) e he hb))
      have e : (fun j => if j = k then true else decide (j < k)) = fun j => decide (j < k + 1) := by
        funext j
        by_cases hj : j = k
        · simp [hj]
        · simp [hj]; omega
      rw [← e]
      exact h'
  refine wp_region ?_
  rw [List.range_eq_range']
  refine key ops.size 0 a0 w0 (by omega) ?_
  have e : (fun j => decide (j < 0)) = fun _ : Nat => false := by funext j; simp
  rw [e]
  exact h0
/-- A region, by facts on the values that its operations leave. -/
theorem wp_told_of {G : Prop} {a0 : Act} {w1 : World} (n : Nat) (hp : plainC ops n = true) (hn : a0.tmps.size = n) (hr : Runs P ops Q a0 w1 G)
    (F : Nat → Value → Prop) (J : (Nat → Bool) → (Nat → Value) → World → Prop) (h0 : ∀ vs, J (fun _ => false) vs w1)
    (hstep : ∀ (L : Nat → Bool) (vs : Nat → Value) (a : Act) (w : World) (i : Nat) (o : Oper), Told ops a0 F J L vs a w → L i = false → ops[i]? = some o → (∀ e ∈ o.after, Region.binds .any e = true → L e.on = true) →
      ∀ K : Act → World → Prop, (∀ v w', (o.dst = none ∨ F i v) → J (fun j => if j = i then true else L j) (fun j => if j = i then v else vs j) w' → K (a.put o.dst v) w') → wpOp P ops Q i K a w)
    (hend : ∀ L vs w, (∀ i, i < ops.size → L i = true) → J L vs w → (∀ (i : Nat) (o : Oper) d, ops[i]? = some o → o.dst = some d → F i (vs i)) → Q .normal (putAll vs 0 ops.toList a0) w) : G := by
  subst hn
  refine hr (fun i o ho => (plainC_spec hp i o ho).1) (fun L a w => ∃ vs, Told ops a0 F J L vs a w) ⟨fun _ => undef, h0 _, rfl, rfl, fun _ _ _ h => by (cases h), fun _ _ => rfl, fun _ _ _ _ _ h => by (cases h)⟩ ?_ ?_
  · intro L a w i o ⟨vs, hF⟩ hL ho hd
    refine hstep L vs a w i o hF hL ho hd _ fun v w' hv hj => ?_
    refine ⟨fun j => if j = i then v else vs j, hj, by rw [size_put]; exact hF.size, by rw [defers_put]; exact hF.defers, fun k ok hk hLk e he hb => ?_, fun s hs => ?_, fun k ok d hk hkd hLk => ?_⟩
    · by_cases hki : k = i
      · subst hki
        obtain rfl : o = ok := Option.some.inj (ho.symm.trans hk)
        show (if e.on = k then true else L e.on) = true
        rw [hd e he hb]; simp
      · have : L k = true := by simpa [hki] using hLk
        show (if e.on = i then true else L e.on) = true
        rw [hF.closed k ok hk this e he hb]; simp
    · have hds : o.dst ≠ some s := fun e => by
        have := hs i o ho e
        simp at this
      rw [getD_put_ne _ _ _ _ hds]
      refine hF.old s fun k ok hk hkd => ?_
      have := hs k ok hk hkd
      by_cases hki : k = i
      · simp [hki] at this
      · simpa [hki] using this
    · by_cases hki : k = i
      · subst hki
        obtain rfl : o = ok := Option.some.inj (ho.symm.trans hk)
        rw [hkd, getD_put_same _ _ _ (by rw [hF.size]; exact (plainC_spec hp k o ho).2.1 d hkd)]
        exact ⟨(if_pos rfl).symm, by rw [if_pos rfl]; exact hv.resolve_left (by rw [hkd]; simp)⟩
      · have hLk' : L k = true := by simpa [hki] using hLk
        rw [getD_put_ne _ _ _ _ (fun e => hki ((plainC_spec hp k ok hk).2.2 i o d ho hkd e))]
        simp only [hki, if_false]
        exact hF.fact k ok d hk hkd hLk'
  · intro L a w hL ⟨vs, hF⟩
    have : a = putAll vs 0 ops.toList a0 := by
      refine act_ext (by rw [putAll_size]; exact hF.size) (by rw [putAll_defers]; exact hF.defers) fun s hs => ?_
      by_cases h : ∃ (i : Nat) (o : Oper), ops[i]? = some o ∧ o.dst = some s
      · obtain ⟨i, o, ho, hd⟩ := h
        rw [(hF.fact i o s ho hd (hL i (Array.getElem?_eq_some_iff.1 ho).1)).1]
        have := putAll_at vs s ops.toList 0 a0 i o (by rw [← hF.size]; exact hs) (by simpa using ho) hd (fun k o' hk he => ((plainC_spec hp i o ho).2.2 k o' s (by simpa using hk) hd he).symm)
        rw [this, Nat.zero_add]
      · rw [putAll_other vs s _ _ _ (fun o ho e => h (by
          obtain ⟨i, hi⟩ := List.mem_iff_getElem?.1 ho
          exact ⟨i, o, by simpa using hi, e⟩))]
        exact hF.old s fun i o ho hd => absurd ⟨i, o, ho, hd⟩ h
    rw [this]
    exact hend L vs w hL hF.j fun i o d ho hd => (hF.fact i o d ho hd (hL i (Array.getElem?_eq_some_iff.1 ho).1)).2
/-- A region that draws its order, by facts on the values that its operations leave. -/
theorem wp_region_told {id : Nat} {a0 : Act} {w0 : World} (n : Nat) (hm : P.follows .mixedOrders = true) (hp : plainC ops n = true) (hn : a0.tmps.size = n)
    (F : Nat → Value → Prop) (J : (Nat → Bool) → (Nat → Value) → World → Prop) (h0 : ∀ vs, J (fun _ => false) vs { w0 with drawn := w0.drawn + 1 })
    (hstep : ∀ (L : Nat → Bool) (vs : Nat → Value) (a : Act) (w : World) (i : Nat) (o : Oper), Told ops a0 F J L vs a w → L i = false → ops[i]? = some o → (∀ e ∈ o.after, Region.binds .any e = true → L e.on = true) →
      ∀ K : Act → World → Prop, (∀ v w', (o.dst = none ∨ F i v) → J (fun j => if j = i then true else L j) (fun j => if j = i then v else vs j) w' → K (a.put o.dst v) w') → wpOp P ops Q i K a w)
    (hend : ∀ L vs w, (∀ i, i < ops.size → L i = true) → J L vs w → (∀ (i : Nat) (o : Oper) d, ops[i]? = some o → o.dst = some d → F i (vs i)) → Q .normal (putAll vs 0 ops.toList a0) w) : (Code.region id ops true).wp P Q a0 w0 :=
  wp_told_of n hp hn (runs_draw hm) F J h0 hstep hend
theorem slott {a0 : Act} {F : Nat → Value → Prop} {J : (Nat → Bool) → (Nat → Value) → World → Prop} {L : Nat → Bool} {vs : Nat → Value} {a : Act} {w : World} (h : Told ops a0 F J L vs a w) (i : Nat) (hi : L i = false) (s : Nat)
    (hB : (ops.toList.all fun o => o.dst != some s || o.after.toList.any fun e => e.on == i && Region.binds .any e) = true) : a.tmps.getD s undef = a0.tmps.getD s undef := by
  refine h.old s fun k o ho e => ?_
  have h1 := List.all_eq_true.1 hB o (by rw [List.mem_iff_getElem?]; exact ⟨k, by simpa using ho⟩)
  simp only [e, bne_self_eq_false, Bool.false_or] at h1
  cases hk : L k with
  | false => rfl
  | true =>
    obtain ⟨ed, he, h2⟩ := List.any_eq_true.1 h1
    simp only [Bool.and_eq_true, beq_iff_eq] at h2
    have := h.closed k o ho hk ed (by simpa using he) h2.2
    rw [h2.1, hi] at this
    cases this
theorem factt {a0 : Act} {F : Nat → Value → Prop} {J : (Nat → Bool) → (Nat → Value) → World → Prop} {L : Nat → Bool} {vs : Nat → Value} {a : Act} {w : World} (h : Told ops a0 F J L vs a w) {after : Array Edge} (hd : ∀ e ∈ after, Region.binds .any e = true → L e.on = true) (k : Nat) {o : Oper} {s : Nat} (ho : ops[k]? = some o) (hs : o.dst = some s)
    (hB : (after.toList.any fun e => e.on == k && Region.binds .any e) = true) : a.tmps.getD s undef = vs k ∧ F k (vs k) := h.fact k o s ho hs (dep hd k hB)
end

/-- Blocks of the call's own, with what they hold, above what was there ahead of it. -/
def Kp (l : List (Nat × Array Value × TypeId)) (w0 w : World) : Prop := (∀ p ∈ l, Own w p.1 p.2.1 p.2.2) ∧ Below w0.heap.size w0 w
theorem Kp.at {l : List (Nat × Array Value × TypeId)} {w0 w : World} (h : Kp l w0 w) (b : Nat) (A : Array Value) (t : TypeId) (hm : (b, A, t) ∈ l) : Own w b A t := h.1 _ hm
theorem Kp.below {l : List (Nat × Array Value × TypeId)} {w0 w w' : World} (h : Kp l w0 w) (hB : Below w.heap.size w w') : Kp l w0 w' :=
  ⟨fun p hp => (h.1 p hp).below hB (h.1 p hp).lt, h.2.trans (hB.mono h.2.size)⟩
theorem Kp.drew {l : List (Nat × Array Value × TypeId)} {w0 w : World} (h : Kp l w0 w) : Kp l w0 { w with drawn := w.drawn + 1 } := ⟨h.1, h.2.trans ((Below.refl _ _).drew)⟩
theorem Kp.nil (w : World) : Kp [] w w := ⟨fun _ h => by (cases h), Below.refl _ _⟩
/-- A block more. -/
theorem Kp.alloc {l : List (Nat × Array Value × TypeId)} {w0 w : World} (h : Kp l w0 w) (A : Array Value) (t : TypeId) : Kp ((w.heap.size, A, t) :: l) w0 (w.alloc (.cells A t)) := by
  refine ⟨fun p hp => ?_, (h.below ((Below.refl _ _).alloc (Nat.le_refl _) _)).2⟩
  rcases List.mem_cons.1 hp with rfl | hp
  · exact own_new w A t
  · exact (h.1 p hp).alloc _
/-- A block written over. -/
theorem Kp.set {l : List (Nat × Array Value × TypeId)} {w0 w : World} {b : Nat} {A A' : Array Value} {t : TypeId} (h : Kp ((b, A, t) :: l) w0 w) (hl : ∀ p ∈ l, p.1 ≠ b) (hb : w0.heap.size ≤ b) (hs : A'.size = A.size) : Kp ((b, A', t) :: l) w0 (w.setCells b 0 A'.toList) := by
  refine ⟨fun p hp => ?_, Below.setCells _ _ _ _ hb h.2⟩
  rcases List.mem_cons.1 hp with rfl | hp
  · exact own_setCells (h.at b A t (.head _)) hs
  · exact Own.setCells_other (hl p hp) _ _ _ (h.1 p (by simp [hp]))
theorem Kp.setCell {l : List (Nat × Array Value × TypeId)} {w0 w : World} {b i : Nat} {v : Value} {A : Array Value} {t : TypeId} (h : Kp ((b, A, t) :: l) w0 w) (hl : ∀ p ∈ l, p.1 ≠ b) (hb : w0.heap.size ≤ b) : Kp ((b, A.setIfInBounds i v, t) :: l) w0 (w.setCell ⟨b, i, none⟩ v) := by
  refine ⟨fun p hp => ?_, h.2.setCell hb v⟩
  rcases List.mem_cons.1 hp with rfl | hp
  · exact (h.at b A t (.head _)).setCell i v
  · exact (h.1 p (by simp [hp])).setCell_other (Ne.symm (hl p hp)) v
theorem Kp.sub {l l' : List (Nat × Array Value × TypeId)} {w0 w : World} (h : Kp l w0 w) (hs : ∀ p ∈ l', p ∈ l) : Kp l' w0 w := ⟨fun p hp => h.1 p (hs p hp), h.2⟩
end Go.Proofs.YtaabcllghniaoaaDoor
