/- Texts: slices of bytes, those that came in and those that a call made. -/
import Derived.Test.YtaabcllghniaoaaDoorRG
import Derived.Maps.AppendAt
import Derived.Laws.AppendOwnNone
namespace Go.Proofs.YtaabcllghniaoaaDoor
open Go Go.RowKit
def u8s (l : List Int) : List Value := l.map (Value.int .u8)
def Bys (l : List Int) : Prop := ∀ x ∈ l, 0 ≤ x ∧ x < 256
theorem info5 : (Tryd.prog.info? 5).map (fun i => (i.zero, i.size, i.bytes)) = some (some (.int .u8 0), 1, 1) := by kernel_rfl
theorem info5s : (Tryd.prog.info? 5).map (·.size) = some 1 := by kernel_rfl
theorem u8s_one (m : List Int) : ∀ v ∈ u8s m, v.oneCell' = true := fun v hv => by obtain ⟨x, _, rfl⟩ := List.mem_map.1 hv; rfl
theorem grown_below {w w' : World} (h : Below w.heap.size w w') (r : Option Nat) : w.grownBy w' r := ⟨h.os, h.tape, h.output, h.size, fun k hk _ => h.block k hk⟩
theorem range_grown {w w' : World} {b o g : Nat} {cs : List Value} (h : w.rangeAt b o cs) (hg : w.grownBy w' (some g)) (hb : b ≠ g) : w'.rangeAt b o cs := fun j v hv => by
  have h1 := h j v hv
  rw [World.cell?_of_block (w := w) (hg.block b (World.block_lt_of_cell? w _ h1) (by simpa using hb))]; exact h1
theorem range_part {w : World} {b o : Nat} {m : List Int} (h : w.rangeAt b o (u8s m)) (k n : Nat) : w.rangeAt b (o + k) (u8s ((m.drop k).take n)) := fun j v hv => by
  rw [Nat.add_assoc]
  refine h (k + j) v ?_
  simp only [u8s, List.getElem?_map, List.getElem?_take, List.getElem?_drop] at hv ⊢
  split at hv
  · exact hv
  · simp at hv
theorem grown_setCell (w : World) (b i : Nat) (v : Value) : w.grownBy (w.setCell ⟨b, i, none⟩ v) (some b) :=
  ⟨rfl, rfl, rfl, by simp [World.setCell], fun k _ hk => Below.heap_setCell _ _ _ _ (fun e => hk (by rw [e]))⟩
theorem grown_trans {a b c : World} {r : Option Nat} (h : a.grownBy b r) (k : b.grownBy c r) : a.grownBy c r :=
  ⟨k.os.trans h.os, k.tape.trans h.tape, k.output.trans h.output, Nat.le_trans h.size k.size, fun i hi hr => (k.block i (Nat.lt_of_lt_of_le hi h.size) hr).trans (h.block i hi hr)⟩
theorem below_grown {B : Nat} {a w w' : World} {b : Nat} (h : Below B a w) (hg : w.grownBy w' (some b)) (hB : B ≤ w.heap.size) (hb : B ≤ b) : Below B a w' :=
  h.grown hg hB (fun k e => by cases e; exact hb)
/-- The value of a slice of the bytes m. -/
def BytesV (w : World) (a : Option Addr) (len cap : Nat) (m : List Int) : Prop :=
  len = m.length ∧ len ≤ cap ∧ cap ≤ maxLen ∧ Bys m ∧ (0 < len → ∃ b off, a = some ⟨b, off, none⟩ ∧ w.rangeAt b off (u8s m))
theorem BytesV.below {w w' : World} {a : Option Addr} {len cap : Nat} {m : List Int} (h : BytesV w a len cap m) (hB : Below w.heap.size w w') : BytesV w' a len cap m := by
  obtain ⟨h1, h2, h3, h4, h5⟩ := h
  refine ⟨h1, h2, h3, h4, fun hp => ?_⟩
  obtain ⟨b, off, e, hr⟩ := h5 hp
  exact ⟨b, off, e, fun j v hv => by
    have := hr j v hv
    rw [hB.cell (World.block_lt_of_cell? w _ this)]; exact this⟩
theorem range_lt {w : World} {b off : Nat} {m : List Int} (h : w.rangeAt b off (u8s m)) (hm : 0 < m.length) : b < w.heap.size :=
  World.block_lt_of_cell? w _ (h 0 (.int .u8 (m[0])) (by simp [u8s, hm]))
theorem BytesV.take {w : World} {a : Option Addr} {len cap : Nat} {m : List Int} (h : BytesV w a len cap m) (q : Nat) (hq : q ≤ len) : BytesV w a q cap (m.take q) := by
  obtain ⟨h1, h2, h3, h4, h5⟩ := h
  refine ⟨by simp; omega, by omega, h3, fun x hx => h4 x (List.mem_of_mem_take hx), fun hp => ?_⟩
  obtain ⟨b, off, e, hr⟩ := h5 (by omega)
  exact ⟨b, off, e, by simpa using range_part hr 0 q⟩
theorem BytesV.drop {w : World} {a : Option Addr} {len cap : Nat} {m : List Int} (h : BytesV w a len cap m) (q : Nat) (hq : q ≤ len) : BytesV w (cutAddr a cap q) (len - q) (cap - q) (m.drop q) := by
  obtain ⟨h1, h2, h3, h4, h5⟩ := h
  refine ⟨by simp; omega, by omega, by omega, fun x hx => h4 x (List.mem_of_mem_drop hx), fun hp => ?_⟩
  obtain ⟨b, off, e, hr⟩ := h5 (by omega)
  refine ⟨b, off + q, ?_, ?_⟩
  · rw [cutAddr, if_neg (by omega), e]; simp [Addr.add_mid]
  · have := range_part hr q (m.drop q).length
    rwa [List.take_length] at this
/-- A slice that the call itself has grown: its bytes are these. -/
def OwnBytes (w : World) (base : Nat) (v : Value) (xs : List Int) : Prop := w.ownsRow base 5 1 v xs.length (u8s xs)
theorem OwnBytes.form {w : World} {base : Nat} {v : Value} {xs : List Int} (h : OwnBytes w base v xs) (hx : Bys xs) : ∃ a cap, v = .slice a xs.length cap ∧ BytesV w a xs.length cap xs := by
  obtain ⟨h1, ⟨h2, h3⟩ | ⟨g, cap, cur, h2, h3, h4, h5, h6, h7, h8⟩⟩ := h
  · obtain rfl := List.eq_nil_of_length_eq_zero h3
    exact ⟨none, 0, h2, rfl, Nat.le_refl _, by decide, fun x hx => by simp at hx, fun hp => absurd hp (by decide)⟩
  · refine ⟨some ⟨g, 0, none⟩, cap, h2, rfl, h5, h6, hx, fun _ => ⟨g, 0, rfl, fun j v hv => ?_⟩⟩
    rw [Nat.zero_add, cell_of_row w g j cur 5 (0, 0) h4, ← hv, ← h8]
    have hj : j < xs.length := by
      have := (List.getElem?_eq_some_iff.1 hv).1
      simpa [u8s] using this
    rw [List.getElem?_take, if_pos (by omega)]; simp
theorem OwnBytes.grown {w w' : World} {base g : Nat} {v : Value} {xs : List Int} (h : OwnBytes w base v xs) (hg : w.grownBy w' (some g)) (hb : g < base) : OwnBytes w' base v xs := by
  obtain ⟨h1, h2 | ⟨g', cap, cur, h2, h3, h4, h5⟩⟩ := h
  · exact ⟨h1, .inl h2⟩
  · refine ⟨h1, .inr ⟨g', cap, cur, h2, h3, ?_, h5⟩⟩
    rw [hg.block g' (Array.getElem?_eq_some_iff.1 h4).1 (by simp; omega)]; exact h4
theorem OwnBytes.below {w w' : World} {base : Nat} {v : Value} {xs : List Int} (h : OwnBytes w base v xs) (hB : Below w.heap.size w w') : OwnBytes w' base v xs := by
  obtain ⟨h1, h2 | ⟨g', cap, cur, h2, h3, h4, h5⟩⟩ := h
  · exact ⟨h1, .inl h2⟩
  · refine ⟨h1, .inr ⟨g', cap, cur, h2, h3, ?_, h5⟩⟩
    rw [hB.block g' (Array.getElem?_eq_some_iff.1 h4).1]; exact h4
theorem OwnBytes.base_le {w : World} {base g : Nat} {v : Value} {xs : List Int} (h : OwnBytes w base v xs) (hv : v.ownBlock = some g) : base ≤ g := by
  obtain ⟨h1, ⟨rfl, _⟩ | ⟨g', cap, cur, rfl, h3, _⟩⟩ := h
  · simp [Value.ownBlock] at hv
  · have : g' = g := by simpa [Value.ownBlock] using hv
    omega
theorem ownBytes_nil (w : World) (base : Nat) : OwnBytes w base (.slice none 0 0) [] := ⟨rfl, .inl ⟨rfl, rfl⟩⟩
/-- append of the bytes of a slice onto a slice that the call has grown. -/
theorem wpList_append_bytes {w : World} {ops : Array Oper} {rest : List Oper} {o : Oper} {a : Act} {Q : Exit → Act → World → Prop} (hgd : o.guard = none) (s x : Operand)
    (ho : o.op = .call { callee := .builtin .append, args := #[s, x], argTypes := #[25, 25] })
    (base : Nat) (v : Value) (xs : List Int) (hs : a.eval s = v) (hown : OwnBytes w base v xs) (bx : Bys xs)
    (sa : Option Addr) (len cap : Nat) (m : List Int) (hx : a.eval x = .slice sa len cap) (hm : BytesV w sa len cap m) (hn : sa = none → cap = 0)
    (hl : xs.length + m.length ≤ 1099511627776) (hbase : base ≤ w.heap.size)
    (h : ∀ a' cap' w', OwnBytes w' base (.slice a' (xs.length + m.length) cap') (xs ++ m) → w.grownBy w' v.ownBlock → BytesV w' a' (xs.length + m.length) cap' (xs ++ m) → wpList Tryd.prog ops Q rest (a.put o.dst (.slice a' (xs.length + m.length) cap')) w') :
    wpList Tryd.prog ops Q (o :: rest) a w := by
  have hb : Bys (xs ++ m) := fun y hy => (List.mem_append.1 hy).elim (bx y) (hm.2.2.2.1 y)
  obtain ⟨i, hi, hz, hsize, hby⟩ : ∃ i, Tryd.prog.info? 5 = some i ∧ i.zero = some (.int .u8 0) ∧ i.size = 1 ∧ i.bytes = 1 := by
    have := info5
    cases hq : Tryd.prog.info? 5 with
    | none => simp [hq] at this
    | some i => exact ⟨i, rfl, by simp [hq] at this; exact this⟩
  have close : ∀ v' w', OwnBytes w' base v' (xs ++ m) → w.grownBy w' v.ownBlock → wpList Tryd.prog ops Q rest (a.put o.dst v') w' := fun v' w' h1 h2 => by
    obtain ⟨a', cap', rfl, hv⟩ := h1.form hb
    rw [List.length_append] at h1 hv ⊢
    exact h a' cap' w' h1 h2 hv
  cases sa with
  | none =>
    obtain rfl := hn rfl
    have h0 : len = 0 := by
      rcases Nat.eq_zero_or_pos len with h | h
      · exact h
      · obtain ⟨b, off, e, _⟩ := hm.2.2.2.2 h; cases e
    subst h0
    have : m = [] := List.eq_nil_of_length_eq_zero hm.1.symm
    subst this
    refine wpList_append_own_none hgd s x 25 ho base 5 i 1 Tryd.underlying25 hi v xs.length (u8s xs) hs hown hx ?_
    exact close v w (by rw [List.append_nil]; exact hown) ⟨rfl, rfl, rfl, Nat.le_refl _, fun _ _ _ => rfl⟩
  | some ad =>
    refine wpList_append_own_at (P := Tryd.prog) w hgd s x 25 ho base 5 i (.int .u8 0) 1 1 Tryd.underlying25 hi hz hsize hby rfl (by decide) v xs.length (u8s xs) hs hown ad len cap (u8s m) hx (by rw [u8s, List.length_map, ← hm.1]; omega) (fun j u hu => ?_) (u8s_one _) (by rw [hm.1]; unfold maxLen; omega) (by rw [hm.1]; omega) hbase ?_
    · have hj : j < m.length := by
        have := (List.getElem?_eq_some_iff.1 hu).1
        simpa [u8s] using this
      obtain ⟨b, off, e, hr⟩ := hm.2.2.2.2 (by rw [hm.1]; omega)
      simp only [Option.some.injEq] at e
      rw [e, Addr.add_mid]; exact hr j u hu
    · intro v' w' h1 h2 _ _
      refine close v' w' ?_ h2
      have e : len = m.length := hm.1
      subst e
      unfold OwnBytes
      rw [List.length_append, u8s, List.map_append]; exact h1
theorem bytesV_one (w : World) (x : Int) (h : 0 ≤ x ∧ x < 256) : BytesV (w.alloc (.cells #[.int .u8 x] 5)) (some ⟨w.heap.size, 0, none⟩) 1 1 [x] :=
  ⟨rfl, Nat.le_refl _, by decide, fun y hy => by simp at hy; omega, fun _ => ⟨_, _, rfl, fun j v hv => by
    rw [Nat.zero_add, cell_of_row _ w.heap.size j #[.int .u8 x] 5 (0, 0) (heap_alloc_last w _)]
    simpa [u8s] using hv⟩⟩
theorem bys_snoc {l : List Int} {x : Int} (h : Bys l) (hx : 0 ≤ x ∧ x < 256) : Bys (l ++ [x]) := fun y hy => by
  rcases List.mem_append.1 hy with h1 | h1
  · exact h y h1
  · simp at h1; omega
theorem BytesV.at {w : World} {a : Option Addr} {len cap : Nat} {m : List Int} (h : BytesV w a len cap m) (k : Nat) (hk : k < len) : ∃ b off, a = some ⟨b, off, none⟩ ∧ w.cell? ⟨b, off + k, none⟩ = some (.int .u8 (m.getD k 0)) := by
  obtain ⟨b, off, e, hr⟩ := h.2.2.2.2 (by omega)
  have : k < m.length := by rw [← h.1]; exact hk
  exact ⟨b, off, e, hr k _ (by simp [u8s, this, List.getD])⟩
/-- A text that was handed in. -/
def Txt (w : World) (a : Option Addr) (cap : Nat) (m : List Int) : Prop := BytesV w a m.length cap m ∧ (a = none → cap = 0)
theorem Txt.below {w w' : World} {a : Option Addr} {cap : Nat} {m : List Int} (h : Txt w a cap m) (hB : Below w.heap.size w w') : Txt w' a cap m := ⟨h.1.below hB, h.2⟩
/-- A value that is a text. -/
def Tx (w : World) (v : Value) (m : List Int) : Prop := ∃ a c, v = .slice a m.length c ∧ Txt w a c m
theorem Tx.below {w w' : World} {v : Value} {m : List Int} (h : Tx w v m) (hB : Below w.heap.size w w') : Tx w' v m := by
  obtain ⟨a, c, e, ht⟩ := h
  exact ⟨a, c, e, ht.below hB⟩
theorem Tx.one {w : World} {v : Value} {m : List Int} (h : Tx w v m) : v.oneCell' = true := by
  obtain ⟨a, c, rfl, -⟩ := h
  rfl
theorem range_of_block {w w' : World} {b o : Nat} {cs : List Value} (h : w'.heap[b]? = w.heap[b]?) (hr : w.rangeAt b o cs) : w'.rangeAt b o cs := fun j v hv => by
  rw [World.cell?_of_block (a := ⟨b, o + j, none⟩) h]
  exact hr j v hv
/-- The text m, by its own block alone. -/
def txR (m : List Int) : Rel where
  r := fun w v => Tx w v m
  loc := fun w w' v hg ⟨a, c, e, ⟨h1, h2, h3, h4, h5⟩, h6⟩ => by
    refine ⟨a, c, e, ⟨h1, h2, h3, h4, fun hp => ?_⟩, h6⟩
    obtain ⟨b, o, ea, hr⟩ := h5 hp
    exact ⟨b, o, ea, range_of_block (hg b (by rw [e, ea]; exact .head _)) hr⟩
theorem own_none {w : World} {base n cap : Nat} {a : Option Addr} {xs : List Int} (h : OwnBytes w base (.slice a n cap) xs) : a = none → cap = 0 := fun e => by
  obtain ⟨h1, ⟨h2, h3⟩ | ⟨g, c, cur, h2, _⟩⟩ := h
  · simp at h2; exact h2.2.2
  · simp [e] at h2
/-- A text that the call made. -/
theorem tx_own {w w' : World} {v : Value} {m : List Int} (h : OwnBytes w' w.heap.size v m) (hb : Bys m) : (txR m).r w' v ∧ ∀ g ∈ blks v, w.heap.size ≤ g ∧ g < w'.heap.size := by
  obtain ⟨a, c, rfl, hv⟩ := h.form hb
  refine ⟨⟨a, c, rfl, hv, own_none h⟩, fun g hg => ?_⟩
  obtain ⟨h1, ⟨h2, h3⟩ | ⟨b, cap, cur, h2, h3, h4, h5⟩⟩ := h
  · simp only [Value.slice.injEq] at h2
    obtain ⟨rfl, -, -⟩ := h2
    cases hg
  · simp only [Value.slice.injEq] at h2
    obtain ⟨rfl, -, -⟩ := h2
    obtain rfl : g = b := by simpa [blks] using hg
    exact ⟨h3, Own.lt h4⟩
theorem txt_nil (w : World) : Txt w none 0 [] := ⟨⟨rfl, Nat.le_refl _, Nat.zero_le _, fun y hy => (by cases hy), fun hp => absurd hp (by decide)⟩, fun _ => rfl⟩
/-- The bytes m in a row of its own that may grow. -/
def obR (base : Nat) (m : List Int) : Rel where
  r := fun w v => OwnBytes w base v m
  loc := fun w w' v hg h => by
    obtain ⟨h1, h2 | ⟨g', cap, cur, h2, h3, h4, h5⟩⟩ := h
    · exact ⟨h1, .inl h2⟩
    · refine ⟨h1, .inr ⟨g', cap, cur, h2, h3, ?_, h5⟩⟩
      rw [hg g' (by rw [h2]; exact .head _)]
      exact h4
theorem blk_own {v : Value} {g : Nat} (h : v.ownBlock = some g) : g ∈ blks v := by
  cases v with
  | slice a n c =>
    cases a with
    | none => cases h
    | some a =>
      obtain rfl : a.block = g := by simpa [Value.ownBlock] using h
      exact .head _
  | _ => cases h
theorem info_u8 : ∃ i, Tryd.prog.info? 5 = some i ∧ i.zero = some (.int .u8 0) ∧ i.size = 1 ∧ i.bytes = 1 := by
  have := info5
  cases hq : Tryd.prog.info? 5 with
  | none => simp [hq] at this
  | some i => exact ⟨i, rfl, by simp [hq] at this; exact this⟩
/-- A text's bytes are appended to a row that may grow. -/
theorem app_is {ρ : Operand → Value} {o : Oper} (s x : Operand) (ho : o.op = .call { callee := .builtin .append, args := #[s, x], argTypes := #[25, 25] }) {w : World} {base : Nat} {v : Value} {xs m : List Int} (hs : ρ s = v) (hown : OwnBytes w base v xs) (hx : Tx w (ρ x) m) (hl : xs.length + m.length ≤ 1099511627776) (hbase : base ≤ w.heap.size) :
    OpV Tryd.prog o ρ w fun v' w' => OwnBytes w' base v' (xs ++ m) ∧ (∃ r, w.grownBy w' r ∧ ∀ g, r = some g → g ∈ blks v) ∧ ∀ g ∈ blks v', g ∈ blks v ∨ w.heap.size ≤ g ∧ g < w'.heap.size := by
  obtain ⟨i, hi, hz, hsize, hby⟩ := info_u8
  obtain ⟨sa, cap, ex, hm, hn⟩ := hx
  cases sa with
  | none =>
    obtain rfl := hn rfl
    have h0 : m.length = 0 := by
      rcases Nat.eq_zero_or_pos m.length with h | h
      · exact h
      · obtain ⟨b, off, e, _⟩ := hm.2.2.2.2 h; cases e
    obtain rfl : m = [] := List.eq_nil_of_length_eq_zero h0
    have hrun := run_append_owned_none (P := Tryd.prog) (w := w) base 25 o.type 5 i 1 Tryd.underlying25 hi v xs.length (u8s xs) hown
    have ex' : ρ x = .slice none 0 0 := ex
    unfold OpV
    simp [execOp, ho, resolve, invoke, builtin, hs, ex', hrun, Result.andThen]
    exact ⟨hown, ⟨none, ⟨rfl, rfl, rfl, Nat.le_refl _, fun _ _ _ => rfl⟩, fun g e => by cases e⟩, fun g hg => .inl hg⟩
  | some ad =>
    obtain ⟨v', w', hr, h2, h3, -, h5⟩ := run_append_own_at (P := Tryd.prog) w base 25 o.type 5 i (.int .u8 0) 1 1 Tryd.underlying25 hi hz hsize hby rfl (by decide) v xs.length (u8s xs) hown ad m.length cap (u8s m) (by rw [u8s, List.length_map]; omega) (fun j u hu => by
      have hj : j < m.length := by
        have := (List.getElem?_eq_some_iff.1 hu).1
        simpa [u8s] using this
      obtain ⟨b, off, e, hr⟩ := hm.2.2.2.2 (by omega)
      simp only [Option.some.injEq] at e
      rw [e, Addr.add_mid]; exact hr j u hu) (u8s_one _) (by unfold maxLen; omega) (by omega) hbase
    unfold OpV execOp
    simp only [ho, resolve, invoke, builtin, Sem.run_bind, Sem.run_pure, Result.andThen_ok, List.map_toArray, List.map_cons, List.map_nil, hs, ex, hr]
    have e : xs.length + m.length = (xs ++ m).length := by rw [List.length_append]
    refine ⟨?_, ⟨_, h3, fun g hg => blk_own hg⟩, fun g hg => ?_⟩
    · unfold OwnBytes
      rw [← e, u8s, List.map_append]
      exact h2
    · obtain ⟨-, ⟨rfl, -⟩ | ⟨b, c, cur, rfl, -, h6, -⟩⟩ := h2
      · cases hg
      · obtain rfl : g = b := by simpa [blks] using hg
        rcases h5 with h5 | h5
        · exact .inl (blk_own (by rw [← h5]; rfl))
        · obtain rfl : g = w.heap.size := by simpa [Value.ownBlock] using h5
          exact .inr ⟨Nat.le_refl _, (Array.getElem?_eq_some_iff.1 h6).1⟩
section
variable {ops : Array Oper} {a0 : Act} {l : (Nat → Bool) → Kl} {w0 : World} {T : List Lv} {i : Nat} {d : Option Tmp} {τ : TypeId} {p : String} {af : Array Edge} {g : Option (Nat × Bool)}
/-- A text is appended to what operation k left. -/
theorem Go1.ab {s x : Operand} {xs m : List Int} {R' : Rel} (k : Nat) (hm : ∀ L vs w, At ops l w0 T i ⟨d, .call { callee := .builtin .append, args := #[s, x], argTypes := #[25, 25] }, τ, p, af, g⟩ L vs w → Tx w (envOf ops T vs a0 af x) m) (hR : ∀ w v, OwnBytes w w0.heap.size v (xs ++ m) → R'.r w v) (hn : xs.length + m.length ≤ 1099511627776)
    (hk : lvAt T k = .od (obR w0.heap.size xs) i := by rfl) (ht : lvAt T i = .ow R' ∨ ∃ z, lvAt T i = .od R' z := by first | exact .inl rfl | exact .inr ⟨_, rfl⟩) (hd : (af.toList.any fun e => e.on == k && Region.binds .any e) = true := by rfl) (hs : ∀ vs, envOf ops T vs a0 af s = vs k := by intro _; kernel_rfl)
    (hw : wantC ops T ⟨d, .call { callee := .builtin .append, args := #[s, x], argTypes := #[25, 25] }, τ, p, af, g⟩ = some true := by rfl) (hf : Lv.free T i = true := by rfl) (hl : ∀ L, l (lset L i true) = l L := by intro _; rfl) : Go1 Tryd.prog ops a0 l w0 T i ⟨d, .call { callee := .builtin .append, args := #[s, x], argTypes := #[25, 25] }, τ, p, af, g⟩ :=
  Go1.on k (fun L vs w a hA he hr => (app_is s x rfl ((he s (by simp [Op.operands, Call.operands])).trans (hs vs)) hr (by rw [he x (by simp [Op.operands, Call.operands])]; exact hm L vs w hA) hn hA.j.kp.2.size).mono fun v w' ⟨h1, h2, h3⟩ => ⟨hR _ _ h1, h2, h3⟩) hk ht hd hw hf hl
/-- A row of bytes is made that may grow. -/
theorem Go1.bo {len : Nat} {parts : Array (Nat × Operand)} (xs : List Int) {R' : Rel} (hR : ∀ w v, OwnBytes w w0.heap.size v xs → R'.r w v) (hps : ∀ vs, parts.toList.map (fun x => envOf ops T vs a0 af x.2) = u8s xs := by intro _; kernel_rfl)
    (ht : lvAt T i = .ow R' ∨ ∃ z, lvAt T i = .od R' z := by first | exact .inl rfl | exact .inr ⟨_, rfl⟩) (hlen : len = xs.length := by rfl) (hpos : decide (0 < len ∧ len ≤ 2 ^ 24) = true := by rfl) (hz : zips parts = true := by rfl)
    (hw : wantC ops T ⟨d, .buildSlice 25 len parts, τ, p, af, g⟩ = some true := by rfl) (hf : Lv.free T i = true := by rfl) (hl : ∀ L, l (lset L i true) = l L := by intro _; rfl) : Go1 Tryd.prog ops a0 l w0 T i ⟨d, .buildSlice 25 len parts, τ, p, af, g⟩ :=
  info_u8.elim fun ie hI => Go1.nw (fun L vs w a hA he => by
    have hie := hI.1
    have hzz := hI.2.1
    have hsz := hI.2.2.1
    have hpos' := of_decide_eq_true hpos
    have hev : parts.toList.map (fun x => a.eval x.2) = u8s xs := by
      rw [← hps vs]
      refine List.map_congr_left fun x hx => he x.2 ?_
      simp only [Op.operands, List.mem_toArray, List.mem_map]
      exact ⟨x, hx, rfl⟩
    have hone : ∀ v ∈ u8s xs, v.cells = #[v] := fun v hv => by
      obtain ⟨x, -, rfl⟩ := List.mem_map.1 hv
      rfl
    have hrun := run_buildSlice w 25 5 len (parts.map fun (i, x) => (i, a.eval x)) (u8s xs).toArray ie _ Tryd.underlying25 hie hzz (by rw [hsz]; omega) (by rw [hsz]; omega) (by
      rw [zips_at hz a.eval hev, hsz]
      exact Great.fill_flat _ _ hone (by simp [hlen, u8s]))
    unfold OpV execOp
    simp only [Sem.run_bind, hrun, Result.andThen_ok, Sem.run_pure]
    subst hlen
    refine ⟨hR _ _ ⟨by simp [u8s], .inr ⟨w.heap.size, xs.length, (u8s xs).toArray, rfl, hA.j.kp.2.size, own_new w _ _, Nat.le_refl _, by unfold maxLen; omega, by simp [u8s], by rw [Nat.mul_one]; exact List.take_of_length_le (by simp [u8s])⟩⟩, fun g hg => ?_, (Below.refl _ _).alloc (Nat.le_refl _) _⟩
    obtain rfl : g = w.heap.size := by simpa [blks] using hg
    exact ⟨Nat.le_refl _, by simp⟩) ht hw hf hl
end
theorem ob_id {base : Nat} {m : List Int} (w : World) (v : Value) (h : OwnBytes w base v m) : (obR base m).r w v := h
theorem ob_tx {base : Nat} {m : List Int} (hb : Bys m) (w : World) (v : Value) (h : OwnBytes w base v m) : (txR m).r w v := by
  obtain ⟨a, c, rfl, hv⟩ := h.form hb
  exact ⟨a, c, rfl, hv, own_none h⟩
end Go.Proofs.YtaabcllghniaoaaDoor
