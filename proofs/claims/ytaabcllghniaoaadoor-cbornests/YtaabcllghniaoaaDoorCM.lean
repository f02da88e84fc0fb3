/- Rows of tokens in memory: those that came in, those that a call made. -/
import Derived.Test.YtaabcllghniaoaaDoorCD
import Derived.Test.YtaabcllghniaoaaDoorBO
namespace Go.Proofs.YtaabcllghniaoaaDoor
open Go Go.RowKit
/-- A token whose numbers are whole numbers of 64 bits. -/
def Tk.wf (t : Tk) : Prop := (-9223372036854775808 ≤ t.k ∧ t.k < 9223372036854775808) ∧ -9223372036854775808 ≤ t.n ∧ t.n < 9223372036854775808
/-- A token's three cells. -/
def tkCells (t : Tk) (v : Value) : List Value := [.int .i64 t.k, .int .i64 t.n, v]
/-- The cells of a row of tokens. -/
def rowCells (l : List Tk) (vs : List Value) : List Value := (List.zipWith tkCells l vs).flatten
theorem rowCells_length : ∀ (l : List Tk) (vs : List Value), l.length = vs.length → (rowCells l vs).length = l.length * 3
  | [], [], _ => rfl
  | [], _ :: _, h => by cases h
  | _ :: _, [], h => by cases h
  | t :: l, v :: vs, h => by
    have := rowCells_length l vs (by simpa using h)
    rw [rowCells] at this ⊢
    rw [List.zipWith_cons_cons, List.flatten_cons, List.length_append, this, List.length_cons]
    simp only [tkCells, List.length_cons, List.length_nil]
    omega
theorem rowCells_app : ∀ (l : List Tk) (vs : List Value) (k : List Tk) (us : List Value), l.length = vs.length → rowCells (l ++ k) (vs ++ us) = rowCells l vs ++ rowCells k us
  | [], [], _, _, _ => rfl
  | [], _ :: _, _, _, h => by cases h
  | _ :: _, [], _, _, h => by cases h
  | t :: l, v :: vs, k, us, h => by
    have := rowCells_app l vs k us (by simpa using h)
    unfold rowCells at this ⊢
    rw [List.cons_append, List.cons_append, List.zipWith_cons_cons, List.flatten_cons, this, List.zipWith_cons_cons, List.flatten_cons, List.append_assoc]
theorem rowCells_at : ∀ (l : List Tk) (vs : List Value), l.length = vs.length → ∀ (i : Nat) (t : Tk) (v : Value), l[i]? = some t → vs[i]? = some v → (rowCells l vs)[i * 3]? = some (.int .i64 t.k) ∧ (rowCells l vs)[i * 3 + 1]? = some (.int .i64 t.n) ∧ (rowCells l vs)[i * 3 + 2]? = some v
  | [], [], _, i, t, v, h, _ => by simp at h
  | [], _ :: _, h, _, _, _, _, _ => by cases h
  | _ :: _, [], h, _, _, _, _, _ => by cases h
  | t :: l, v :: vs, h, 0, t', v', ht, hv => by
    simp only [List.getElem?_cons_zero, Option.some.injEq] at ht hv
    subst ht hv
    exact ⟨rfl, rfl, rfl⟩
  | t :: l, v :: vs, h, i + 1, t', v', ht, hv => by
    rw [List.getElem?_cons_succ] at ht hv
    have := rowCells_at l vs (by simpa using h) i t' v' ht hv
    rw [rowCells] at this ⊢
    rw [List.zipWith_cons_cons, List.flatten_cons, Nat.add_mul]
    exact this
/-- A token's cells at a place; P: of the block that its text lies in. -/
def TokAtP (P : Nat → Prop) (w : World) (b o : Nat) (t : Tk) : Prop := w.cell? ⟨b, o, none⟩ = some (.int .i64 t.k) ∧ w.cell? ⟨b, o + 1, none⟩ = some (.int .i64 t.n) ∧ ∃ v, w.cell? ⟨b, o + 2, none⟩ = some v ∧ Tx w v t.b ∧ (0 < t.b.length → ∀ g ∈ blks v, P g)
theorem TokAtP.below {P : Nat → Prop} {w w' : World} {b o : Nat} {t : Tk} (h : TokAtP P w b o t) (hB : Below w.heap.size w w') : TokAtP P w' b o t := by
  obtain ⟨h1, h2, v, h3, h4, h5⟩ := h
  have hb := World.block_lt_of_cell? w _ h1
  exact ⟨by rw [hB.cell (p := ⟨b, o, none⟩) hb]; exact h1, by rw [hB.cell (p := ⟨b, o + 1, none⟩) hb]; exact h2, v, by rw [hB.cell (p := ⟨b, o + 2, none⟩) hb]; exact h3, h4.below hB, h5⟩
theorem Tx.blk_lt {w : World} {u : Value} {m : List Int} (h : Tx w u m) (hm : 0 < m.length) : ∀ g ∈ blks u, g < w.heap.size := by
  obtain ⟨a, c, rfl, ⟨h1, h2, h3, h4, h5⟩, h6⟩ := h
  obtain ⟨b, o, rfl, hr⟩ := h5 hm
  intro g hg
  obtain rfl : g = b := by simpa [blks] using hg
  exact range_lt hr hm
/-- The value of a slice of tokens. -/
def TokV (P : Nat → Prop) (w : World) (a : Option Addr) (len cap : Nat) (l : List Tk) : Prop :=
  len = l.length ∧ len ≤ cap ∧ cap ≤ maxLen ∧ (∀ t ∈ l, t.wf) ∧ (0 < len → ∃ b off, a = some ⟨b, off, none⟩ ∧ ∀ i t, l[i]? = some t → TokAtP P w b (off + i * 3) t)
theorem TokV.below {P : Nat → Prop} {w w' : World} {a : Option Addr} {len cap : Nat} {l : List Tk} (h : TokV P w a len cap l) (hB : Below w.heap.size w w') : TokV P w' a len cap l := by
  obtain ⟨h1, h2, h3, h4, h5⟩ := h
  refine ⟨h1, h2, h3, h4, fun hp => ?_⟩
  obtain ⟨b, off, e, hr⟩ := h5 hp
  exact ⟨b, off, e, fun i t ht => (hr i t ht).below hB⟩
theorem TokV.mono {P Q : Nat → Prop} {w : World} {a : Option Addr} {len cap : Nat} {l : List Tk} (h : TokV P w a len cap l) (hPQ : ∀ g, P g → g < w.heap.size → Q g) : TokV Q w a len cap l := by
  obtain ⟨h1, h2, h3, h4, h5⟩ := h
  refine ⟨h1, h2, h3, h4, fun hp => ?_⟩
  obtain ⟨b, off, e, hr⟩ := h5 hp
  refine ⟨b, off, e, fun i t ht => ?_⟩
  obtain ⟨c1, c2, v, c3, c4, c5⟩ := hr i t ht
  exact ⟨c1, c2, v, c3, c4, fun hp g hg => hPQ g (c5 hp g hg) (c4.blk_lt hp g hg)⟩
theorem TokV.at {P : Nat → Prop} {w : World} {a : Option Addr} {len cap : Nat} {l : List Tk} (h : TokV P w a len cap l) {i : Nat} {t : Tk} (ht : l[i]? = some t) : ∃ b off, a = some ⟨b, off, none⟩ ∧ TokAtP P w b (off + i * 3) t := by
  obtain ⟨h1, h2, h3, h4, h5⟩ := h
  have := (List.getElem?_eq_some_iff.1 ht).1
  obtain ⟨b, off, e, hr⟩ := h5 (by omega)
  exact ⟨b, off, e, hr i t ht⟩
/-- A row of tokens that was handed in; P: of the blocks that their texts lie in. -/
def ToksP (P : Nat → Prop) (w : World) (a : Option Addr) (cap : Nat) (l : List Tk) : Prop := TokV P w a l.length cap l ∧ (a = none → cap = 0)
theorem ToksP.below {P : Nat → Prop} {w w' : World} {a : Option Addr} {cap : Nat} {l : List Tk} (h : ToksP P w a cap l) (hB : Below w.heap.size w w') : ToksP P w' a cap l := ⟨h.1.below hB, h.2⟩
theorem ToksP.mono {P Q : Nat → Prop} {w : World} {a : Option Addr} {cap : Nat} {l : List Tk} (h : ToksP P w a cap l) (hPQ : ∀ g, P g → g < w.heap.size → Q g) : ToksP Q w a cap l := ⟨h.1.mono hPQ, h.2⟩
abbrev Toks (w : World) (a : Option Addr) (cap : Nat) (l : List Tk) : Prop := ToksP (fun _ => True) w a cap l
theorem toks_none (P : Nat → Prop) (w : World) : ToksP P w none 0 [] := ⟨⟨rfl, Nat.le_refl _, by decide, fun t ht => (by cases ht), fun h => absurd h (by decide)⟩, fun _ => rfl⟩
/-- The texts of a row's tokens, apart from a block. -/
def Texts (w : World) (v : Value) (l : List Tk) (vs : List Value) : Prop := vs.length = l.length ∧ ∀ (i : Nat) (t : Tk) (u : Value), l[i]? = some t → vs[i]? = some u → t.wf ∧ Tx w u t.b ∧ (0 < t.b.length → ∀ g ∈ blks v, ∀ g' ∈ blks u, g' ≠ g)
/-- A row of tokens that the call itself has grown. -/
def OwnToks (w : World) (base : Nat) (v : Value) (l : List Tk) : Prop := ∃ vs, w.ownsRow base 45 3 v l.length (rowCells l vs) ∧ Texts w v l vs
theorem ownToks_nil (w : World) (base : Nat) : OwnToks w base (.slice none 0 0) [] := ⟨[], ⟨rfl, .inl ⟨rfl, rfl⟩⟩, rfl, fun i t u h => by simp at h⟩
/-- It is a row of tokens. -/
theorem OwnToks.form {w : World} {base : Nat} {v : Value} {l : List Tk} (h : OwnToks w base v l) : ∃ a cap, v = .slice a l.length cap ∧ Toks w a cap l := by
  obtain ⟨vs, ⟨h1, h2⟩, h3, h4⟩ := h
  have hw : ∀ t ∈ l, t.wf := fun t ht => by
    obtain ⟨i, hi, rfl⟩ := List.getElem_of_mem ht
    exact (h4 i l[i] vs[i] (List.getElem?_eq_getElem hi) (List.getElem?_eq_getElem (by omega))).1
  rcases h2 with ⟨rfl, h0⟩ | ⟨g, cap, cur, rfl, hb, ho, hc, hm, hs, ht⟩
  · obtain rfl := List.eq_nil_of_length_eq_zero h0
    exact ⟨none, 0, rfl, toks_none _ w⟩
  · refine ⟨some ⟨g, 0, none⟩, cap, rfl, ⟨rfl, hc, hm, hw, fun hp => ⟨g, 0, rfl, fun i t hi => ?_⟩⟩, fun e => by cases e⟩
    have hil := (List.getElem?_eq_some_iff.1 hi).1
    have hv : vs[i]? = some vs[i] := List.getElem?_eq_getElem (by omega)
    obtain ⟨c1, c2, c3⟩ := rowCells_at l vs h3.symm i t _ hi hv
    have hcell : ∀ j u, j < l.length * 3 → (rowCells l vs)[j]? = some u → w.cell? ⟨g, j, none⟩ = some u := fun j u hj hu => by
      rw [cell_of_row w g j cur 45 (0, 0) ho, ← hu, ← ht, List.getElem?_take, if_pos hj]
      simp
    rw [Nat.zero_add]
    exact ⟨hcell _ _ (by omega) c1, hcell _ _ (by omega) c2, _, hcell _ _ (by omega) c3, (h4 i t _ hi hv).2.1, fun _ _ _ => trivial⟩
theorem OwnToks.below {w w' : World} {base : Nat} {v : Value} {l : List Tk} (h : OwnToks w base v l) (hB : Below w.heap.size w w') : OwnToks w' base v l := by
  obtain ⟨vs, ⟨h1, h2⟩, h3, h4⟩ := h
  refine ⟨vs, ⟨h1, ?_⟩, h3, fun i t u hi hu => ⟨(h4 i t u hi hu).1, (h4 i t u hi hu).2.1.below hB, (h4 i t u hi hu).2.2⟩⟩
  rcases h2 with h2 | ⟨g', cap, cur, h2, h5, h6, h7⟩
  · exact .inl h2
  · exact .inr ⟨g', cap, cur, h2, h5, by rw [hB.block g' (Array.getElem?_eq_some_iff.1 h6).1]; exact h6, h7⟩
theorem OwnToks.base_le {w : World} {base g : Nat} {v : Value} {l : List Tk} (h : OwnToks w base v l) (hv : v.ownBlock = some g) : base ≤ g := by
  obtain ⟨vs, ⟨h1, ⟨rfl, _⟩ | ⟨g', cap, cur, rfl, h3, _⟩⟩, -⟩ := h
  · simp [Value.ownBlock] at hv
  · have : g' = g := by simpa [Value.ownBlock] using hv
    omega
theorem OwnToks.blk_lt {w : World} {base : Nat} {v : Value} {l : List Tk} (h : OwnToks w base v l) : ∀ g ∈ blks v, g < w.heap.size := by
  obtain ⟨vs, ⟨h1, ⟨rfl, _⟩ | ⟨g', cap, cur, rfl, h3, h4, _⟩⟩, -⟩ := h
  · intro g hg; cases hg
  · intro g hg
    obtain rfl : g = g' := by simpa [blks] using hg
    exact (Array.getElem?_eq_some_iff.1 h4).1
theorem OwnToks.blk_base {w : World} {base : Nat} {v : Value} {l : List Tk} (h : OwnToks w base v l) : ∀ g ∈ blks v, base ≤ g := by
  obtain ⟨vs, ⟨h1, ⟨rfl, _⟩ | ⟨g', cap, cur, rfl, h3, h4, _⟩⟩, -⟩ := h
  · intro g hg; cases hg
  · intro g hg
    obtain rfl : g = g' := by simpa [blks] using hg
    exact h3
/-- A text that is not in a block that changes. -/
theorem Tx.grown {w w' : World} {u : Value} {m : List Int} {r : Option Nat} (h : Tx w u m) (hg : w.grownBy w' r) (hne : 0 < m.length → ∀ g, r = some g → ∀ g' ∈ blks u, g' ≠ g) : Tx w' u m := by
  obtain ⟨a, c, rfl, ⟨h1, h2, h3, h4, h5⟩, h6⟩ := h
  refine ⟨a, c, rfl, ⟨h1, h2, h3, h4, fun hp => ?_⟩, h6⟩
  obtain ⟨b, o, rfl, hr⟩ := h5 hp
  have hb : b < w.heap.size := range_lt hr hp
  exact ⟨b, o, rfl, range_of_block (hg.block b hb (fun e => hne hp b e.symm b (.head _) rfl)) hr⟩
theorem info_tok : ∃ i z, Tryd.prog.info? 45 = some i ∧ i.zero = some z ∧ i.size = 3 ∧ i.bytes = 40 ∧ z.cells.size = 3 := by
  have : (Tryd.prog.info? 45).map (fun i => (i.zero.map (·.cells.size), i.size, i.bytes)) = some (some 3, 3, 40) := by kernel_rfl
  cases hq : Tryd.prog.info? 45 with
  | none => simp [hq] at this
  | some i =>
    simp [hq] at this
    obtain ⟨⟨z, hz, hs⟩, h2, h3⟩ := this
    exact ⟨i, z, rfl, hz, h2, h3, hs⟩
/-- A row's own texts, by the row's own values. -/
theorem TokV.vals {P : Nat → Prop} {w : World} {b off : Nat} : ∀ {l : List Tk} (_ : ∀ (i : Nat) t, l[i]? = some t → TokAtP P w b (off + i * 3) t), ∃ vs, vs.length = l.length ∧ (∀ (i : Nat) t u, l[i]? = some t → vs[i]? = some u → Tx w u t.b ∧ (0 < t.b.length → ∀ g ∈ blks u, P g)) ∧ ∀ (j : Nat) u, (rowCells l vs)[j]? = some u → w.cell? ⟨b, off + j, none⟩ = some u
  | [], _ => ⟨[], rfl, fun i t u h => by simp at h, fun j u h => by simp [rowCells] at h⟩
  | t :: l, h => by
    obtain ⟨c1, c2, v, c3, c4, c5⟩ := h 0 t rfl
    obtain ⟨vs, h1, h2, h3⟩ := TokV.vals (P := P) (w := w) (b := b) (off := off + 3) (l := l) fun i t' ht => by
      have := h (i + 1) t' (by rw [List.getElem?_cons_succ]; exact ht)
      rwa [show off + (i + 1) * 3 = off + 3 + i * 3 by omega] at this
    refine ⟨v :: vs, by simp [h1], fun i t' u ht hu => ?_, fun j u hj => ?_⟩
    · cases i with
      | zero =>
        simp only [List.getElem?_cons_zero, Option.some.injEq] at ht hu
        subst ht hu
        exact ⟨c4, c5⟩
      | succ i =>
        rw [List.getElem?_cons_succ] at ht hu
        exact h2 i t' u ht hu
    · rw [rowCells, List.zipWith_cons_cons, List.flatten_cons] at hj
      match j with
      | 0 => simp only [tkCells, List.cons_append, List.getElem?_cons_zero, Option.some.injEq] at hj; subst hj; exact c1
      | 1 => simp only [tkCells, List.cons_append, List.getElem?_cons_succ, List.getElem?_cons_zero, Option.some.injEq] at hj; subst hj; exact c2
      | 2 => simp only [tkCells, List.cons_append, List.getElem?_cons_succ, List.getElem?_cons_zero, Option.some.injEq] at hj; subst hj; exact c3
      | j + 3 =>
        simp only [tkCells, List.cons_append, List.nil_append, List.getElem?_cons_succ] at hj
        have := h3 j u hj
        rwa [show off + 3 + j = off + (j + 3) by omega] at this
theorem rowCells_one {l : List Tk} {vs : List Value} (h : ∀ u ∈ vs, u.oneCell' = true) : ∀ v ∈ rowCells l vs, v.oneCell' = true := fun v hv => by
  rw [rowCells] at hv
  obtain ⟨cs, hcs, hv⟩ := List.mem_flatten.1 hv
  obtain ⟨i, hi, rfl⟩ := List.getElem_of_mem hcs
  rw [List.getElem_zipWith] at hv
  rcases List.mem_cons.1 hv with rfl | hv
  · rfl
  rcases List.mem_cons.1 hv with rfl | hv
  · rfl
  obtain rfl := List.mem_singleton.1 hv
  exact h _ (List.getElem_mem _)
/-- Tokens are appended to a row that the call has grown. -/
theorem tokApp_is {ρ : Operand → Value} {o : Oper} (s x : Operand) (ho : o.op = .call { callee := .builtin .append, args := #[s, x], argTypes := #[22, 22] }) {w : World} {base : Nat} {v : Value} {xs m : List Tk} (hs : ρ s = v) (hown : OwnToks w base v xs) {sa : Option Addr} {cap : Nat} (hx : ρ x = .slice sa m.length cap) {P : Nat → Prop} (hm : ToksP P w sa cap m) (hP : ∀ g', P g' → ∀ g ∈ blks v, g' ≠ g) (hl : xs.length + m.length ≤ 1099511627776) (hbase : base ≤ w.heap.size) :
    OpV Tryd.prog o ρ w fun v' w' => OwnToks w' base v' (xs ++ m) ∧ (∃ r, w.grownBy w' r ∧ ∀ g, r = some g → g ∈ blks v) ∧ ∀ g ∈ blks v', g ∈ blks v ∨ w.heap.size ≤ g ∧ g < w'.heap.size := by
  obtain ⟨i, z, hi, hz, hsize, hby, hzs⟩ := info_tok
  obtain ⟨⟨-, hmc, hcm, hwf, hmem⟩, hn⟩ := hm
  obtain ⟨vs, hrow, hvs, htx⟩ := hown
  cases sa with
  | none =>
    obtain rfl := hn rfl
    have h0 : m.length = 0 := by omega
    obtain rfl : m = [] := List.eq_nil_of_length_eq_zero h0
    have hrun := run_append_owned_none (P := Tryd.prog) (w := w) base 22 o.type 45 i 3 Tryd.underlying22 hi v xs.length (rowCells xs vs) hrow
    have ex' : ρ x = .slice none 0 0 := hx
    unfold OpV
    simp [execOp, ho, resolve, invoke, builtin, hs, ex', hrun, Result.andThen]
    exact ⟨⟨vs, hrow, hvs, htx⟩, ⟨none, ⟨rfl, rfl, rfl, Nat.le_refl _, fun _ _ _ => rfl⟩, fun g e => by cases e⟩, fun g hg => .inl hg⟩
  | some ad =>
    obtain ⟨us, hus, hut, hucell⟩ : ∃ us : List Value, us.length = m.length ∧ (∀ (i : Nat) t u, m[i]? = some t → us[i]? = some u → Tx w u t.b ∧ (0 < t.b.length → ∀ g ∈ blks u, P g)) ∧ ∀ (j : Nat) u, (rowCells m us)[j]? = some u → w.cell? (ad.add j) = some u := by
      rcases Nat.eq_zero_or_pos m.length with h | h
      · obtain rfl := List.eq_nil_of_length_eq_zero h
        exact ⟨[], rfl, fun i t u h => by simp at h, fun j u h => by simp [rowCells] at h⟩
      · obtain ⟨b, off, e, hr⟩ := hmem h
        obtain rfl := Option.some.inj e
        obtain ⟨us, h1, h2, h3⟩ := TokV.vals hr
        exact ⟨us, h1, h2, fun j u hj => by rw [Addr.add_mid]; exact h3 j u hj⟩
    have hone : ∀ u ∈ us, u.oneCell' = true := fun u hu => by
      obtain ⟨k, hk, rfl⟩ := List.getElem_of_mem hu
      exact (hut k (m[k]'(by omega)) us[k] (List.getElem?_eq_getElem (by omega)) (List.getElem?_eq_getElem hk)).1.one
    obtain ⟨v', w', hr, h2, h3, h4, h5⟩ := run_append_own_at (P := Tryd.prog) w base 22 o.type 45 i z 3 40 Tryd.underlying22 hi hz hsize hby hzs (by decide) v xs.length (rowCells xs vs) hrow ad m.length cap (rowCells m us) (by rw [rowCells_length _ _ hus.symm]) hucell (rowCells_one hone) (by unfold maxLen; omega) (by omega) hbase
    unfold OpV execOp
    simp only [ho, resolve, invoke, builtin, Sem.run_bind, Sem.run_pure, Result.andThen_ok, List.map_toArray, List.map_cons, List.map_nil, hs, hx, hr]
    have hblk : ∀ g ∈ blks v', v'.ownBlock = some g := fun g hg => by
      obtain ⟨-, ⟨rfl, -⟩ | ⟨b, c, cur, rfl, -, h6, -⟩⟩ := h2
      · cases hg
      · obtain rfl : g = b := by simpa [blks] using hg
        rfl
    have hlt : ∀ g ∈ blks v', g < w'.heap.size := fun g hg => by
      obtain ⟨-, ⟨rfl, -⟩ | ⟨b, c, cur, rfl, -, h6, -⟩⟩ := h2
      · cases hg
      · obtain rfl : g = b := by simpa [blks] using hg
        exact (Array.getElem?_eq_some_iff.1 h6).1
    have hcase : ∀ g ∈ blks v', g ∈ blks v ∨ g = w.heap.size := fun g hg => by
      have e := hblk g hg
      rcases h5 with h5 | h5
      · exact .inl (blk_own (by rw [← h5]; exact e))
      · rw [h5] at e
        exact .inr (Option.some.inj e).symm
    refine ⟨⟨vs ++ us, ?_, by simp [hvs, hus], fun k t u hk hu => ?_⟩, ⟨_, h3, fun g hg => blk_own hg⟩, fun g hg => ?_⟩
    · rw [List.length_append, rowCells_app _ _ _ _ hvs.symm]
      exact h2
    · by_cases hlt' : k < xs.length
      · rw [List.getElem?_append_left hlt'] at hk
        rw [List.getElem?_append_left (by omega)] at hu
        obtain ⟨a1, a2, a3⟩ := htx k t u hk hu
        refine ⟨a1, a2.grown h3 fun hp g hg g' hg' => a3 hp g (blk_own hg) g' hg', fun hp g hg g' hg' => ?_⟩
        rcases hcase g hg with h | rfl
        · exact a3 hp g h g' hg'
        · exact Nat.ne_of_lt (a2.blk_lt hp g' hg')
      · rw [List.getElem?_append_right (by omega)] at hk hu
        rw [hvs] at hu
        obtain ⟨a2, a3⟩ := hut _ t u hk hu
        refine ⟨hwf t (List.mem_of_getElem? hk), a2.grown h3 fun hp g hg g' hg' => hP g' (a3 hp g' hg') g (blk_own hg), fun hp g hg g' hg' => ?_⟩
        rcases hcase g hg with h | rfl
        · exact hP g' (a3 hp g' hg') g h
        · exact Nat.ne_of_lt (a2.blk_lt hp g' hg')
    · rcases hcase g hg with h | rfl
      · exact .inl h
      · exact .inr ⟨Nat.le_refl _, hlt _ hg⟩
end Go.Proofs.YtaabcllghniaoaaDoor
