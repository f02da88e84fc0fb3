/- The program's writer, in memory. -/
import Derived.Test.YtaabcllghniaoaaDoorCM
import Derived.Test.YtaabcllghniaoaaDoorBA
import Derived.Test.YtaabcllghniaoaaDoorRK
namespace Go.Proofs.YtaabcllghniaoaaDoor
open Go Go.RowKit
/-- Memory as a writer leaves it: all stays but its own block, and what lies behind its bytes. -/
def Gr (w w' : World) (gw : Nat) (v : Value) (n : Nat) (v' : Value) : Prop :=
  w.heap.size ≤ w'.heap.size ∧ (∀ b o, b < w.heap.size → b ≠ gw → (b ∈ blks v → o < n) → w'.cell? ⟨b, o, none⟩ = w.cell? ⟨b, o, none⟩) ∧ ∀ b ∈ blks v', b ∈ blks v ∨ w.heap.size ≤ b
theorem Gr.refl (w : World) (gw : Nat) (v : Value) (n : Nat) : Gr w w gw v n v := ⟨Nat.le_refl _, fun _ _ _ _ _ => rfl, fun _ h => .inl h⟩
theorem Gr.trans {w w1 w2 : World} {gw n n1 : Nat} {v v1 v2 : Value} (h : Gr w w1 gw v n v1) (k : Gr w1 w2 gw v1 n1 v2) (hn : n ≤ n1) : Gr w w2 gw v n v2 := by
  refine ⟨Nat.le_trans h.1 k.1, fun b o hb hg ho => ?_, fun b hb => ?_⟩
  · rw [k.2.1 b o (Nat.lt_of_lt_of_le hb h.1) hg fun hv => ?_, h.2.1 b o hb hg ho]
    rcases h.2.2 b hv with h1 | h1
    · exact Nat.lt_of_lt_of_le (ho h1) hn
    · omega
  · rcases k.2.2 b hb with h1 | h1
    · exact h.2.2 b h1
    · exact .inr (Nat.le_trans h.1 h1)
/-- Where all old blocks stay but the writer's own. -/
theorem gr_of {w w' : World} {gw n : Nat} {v : Value} (h : w.grownBy w' (some gw)) : Gr w w' gw v n v :=
  ⟨h.size, fun b o hb hg _ => World.cell?_of_block (a := ⟨b, o, none⟩) (h.block b hb (by simpa using hg)), fun _ h => .inl h⟩
theorem gr_below {w w' : World} {gw n : Nat} {v : Value} (h : Below w.heap.size w w') : Gr w w' gw v n v := gr_of (grown_below h _)
/-- A text that the writer's memory keeps. -/
def KeyT (w : World) (gw : Nat) (v : Value) (n : Nat) (u : Value) (m : List Int) : Prop := ∃ a c, u = .slice a m.length c ∧ BytesV w a m.length c m ∧ ∀ b off, a = some ⟨b, off, none⟩ → 0 < m.length → b ≠ gw ∧ (b ∈ blks v → off + m.length ≤ n)
theorem KeyT.keep {w w' : World} {gw n n' : Nat} {v v' u : Value} {m : List Int} (h : KeyT w gw v n u m) (hG : Gr w w' gw v n v') (hn : n ≤ n') : KeyT w' gw v' n' u m := by
  obtain ⟨a, c, rfl, ⟨h1, h2, h3, h4, h5⟩, h6⟩ := h
  refine ⟨a, c, rfl, ⟨h1, h2, h3, h4, fun hp => ?_⟩, fun b off e hp => ?_⟩
  · obtain ⟨b, off, e, hr⟩ := h5 hp
    obtain ⟨h7, h8⟩ := h6 b off e hp
    refine ⟨b, off, e, fun j x hj => ?_⟩
    have hb := World.block_lt_of_cell? w _ (hr j x hj)
    have hjl : j < m.length := by have := (List.getElem?_eq_some_iff.1 hj).1; simpa [u8s] using this
    rw [hG.2.1 b (off + j) hb h7 fun hv => by have := h8 hv; omega]
    exact hr j x hj
  · obtain ⟨h7, h8⟩ := h6 b off e hp
    obtain ⟨b', off', e', hr⟩ := h5 hp
    rw [e] at e'
    simp only [Option.some.injEq, Addr.mk.injEq, and_true] at e'
    obtain ⟨rfl, rfl⟩ := e'
    refine ⟨h7, fun hv => ?_⟩
    rcases hG.2.2 b hv with h9 | h9
    · exact Nat.le_trans (h8 h9) hn
    · have := range_lt hr hp; omega
/-- A text is appended to a row that the call has grown: what lay in the row's bytes stays where it lay. -/
theorem app_keeps {ρ : Operand → Value} {o : Oper} (s x : Operand) (ho : o.op = .call { callee := .builtin .append, args := #[s, x], argTypes := #[25, 25] }) {w : World} {base : Nat} {v : Value} {xs m : List Int} (hs : ρ s = v) (hown : OwnBytes w base v xs) (hx : Tx w (ρ x) m) (hl : xs.length + m.length ≤ 1099511627776) (hbase : base ≤ w.heap.size) :
    OpV Tryd.prog o ρ w fun v' w' => OwnBytes w' base v' (xs ++ m) ∧ Below base w w' ∧ (∀ gw, (∀ g ∈ blks v, g ≠ gw) → Gr w w' gw v xs.length v' ∧ (gw < w.heap.size → w'.heap[gw]? = w.heap[gw]?)) := by
  obtain ⟨i, hi, hz, hsize, hby⟩ := info_u8
  obtain ⟨sa, cap, ex, hm, hn⟩ := hx
  cases sa with
  | none =>
    obtain rfl := hn rfl
    have h0 : m.length = 0 := by
      rcases Nat.eq_zero_or_pos m.length with h | h
      · exact h
      · obtain ⟨b, off, e, _⟩ := hm.2.2.2.2 h; cases e
    obtain rfl : m = [] := List.eq_nil_of_length_eq_zero h0
    have hrun := run_append_owned_none (P := Tryd.prog) (w := w) base 25 o.type 5 i 1 Tryd.underlying25 hi v xs.length (u8s xs) hown
    have ex' : ρ x = .slice none 0 0 := ex
    unfold OpV
    simp [execOp, ho, resolve, invoke, builtin, hs, ex', hrun, Result.andThen]
    exact ⟨hown, Below.refl _ _, fun gw _ => Gr.refl _ _ _ _⟩
  | some ad =>
    have hnews : ∀ (j : Nat) u, (u8s m)[j]? = some u → w.cell? (ad.add j) = some u := fun j u hu => by
      have hj : j < m.length := by
        have := (List.getElem?_eq_some_iff.1 hu).1
        simpa [u8s] using this
      obtain ⟨b, off, e, hr⟩ := hm.2.2.2.2 (by omega)
      simp only [Option.some.injEq] at e
      rw [e, Addr.add_mid]; exact hr j u hu
    obtain ⟨v', w', hr, h2, h3, -, h5⟩ := run_append_own_at (P := Tryd.prog) w base 25 o.type 5 i (.int .u8 0) 1 1 Tryd.underlying25 hi hz hsize hby rfl (by decide) v xs.length (u8s xs) hown ad m.length cap (u8s m) (by rw [u8s, List.length_map]; omega) hnews (u8s_one _) (by unfold maxLen; omega) (by omega) hbase
    unfold OpV execOp
    simp only [ho, resolve, invoke, builtin, Sem.run_bind, Sem.run_pure, Result.andThen_ok, List.map_toArray, List.map_cons, List.map_nil, hs, ex, hr]
    have e : xs.length + m.length = (xs ++ m).length := by rw [List.length_append]
    have hO : OwnBytes w' base v' (xs ++ m) := by
      unfold OwnBytes
      rw [← e, u8s, List.map_append]
      exact h2
    refine ⟨hO, (Below.refl base w).grown h3 hbase fun g e => own_base hown (blk_own e), fun gw hgw => ⟨⟨h3.size, fun b o' hb hbg ho' => ?_, fun b hb => ?_⟩, fun hlt => h3.block gw hlt fun e => hgw gw (blk_own e.symm) rfl⟩⟩
    · by_cases hbv : v.ownBlock = some b
      · have ho1 := ho' (blk_own hbv)
        -- the old row's own block
        have hcell : w.cell? ⟨b, o', none⟩ = (u8s xs)[o']? := by
          obtain ⟨g1, ⟨rfl, _⟩ | ⟨g, c, cur, rfl, g2, g3, g4, g5, g6, g7⟩⟩ := hown
          · cases hbv
          · obtain rfl : g = b := by simpa [Value.ownBlock] using hbv
            rw [cell_of_row w g o' cur 5 (0, 0) g3, ← g7, List.getElem?_take, if_pos (by omega)]; simp
        rcases h5 with h5 | h5
        · have hcell' : w'.cell? ⟨b, o', none⟩ = (u8s xs ++ u8s m)[o']? := by
            obtain ⟨g1, ⟨rfl, _⟩ | ⟨g, c, cur, rfl, g2, g3, g4, g5, g6, g7⟩⟩ := h2
            · rw [hbv] at h5; cases h5
            · obtain rfl : g = b := by rw [hbv] at h5; simpa [Value.ownBlock] using h5
              rw [cell_of_row w' g o' cur 5 (0, 0) g3, ← g7, List.getElem?_take, if_pos (by omega)]; simp
          rw [hcell', hcell, List.getElem?_append_left (by simpa [u8s] using ho1)]
        · -- a new block: the old one is as it was
          obtain ⟨g1, ⟨rfl, _⟩ | ⟨g, c, cur, rfl, g2, g3, g4, g5, g6, g7⟩⟩ := hown
          · cases hbv
          · obtain rfl : g = b := by simpa [Value.ownBlock] using hbv
            have hlen : (u8s xs).length = xs.length := by simp [u8s]
            have hlenm : (u8s m).length = m.length := by simp [u8s]
            by_cases hroom : xs.length + m.length ≤ c
            · have hr' := run_append_room (P := Tryd.prog) w 25 o.type 5 i Tryd.underlying25 hi g xs.length c cur g3 ad m.length cap (u8s m) (by rw [hsize, hlenm]; omega) hnews (u8s_one _) hroom (by rw [hsize, hlenm, g6]; omega)
              rw [hr] at hr'
              injection hr' with e1 e2
              rw [e1] at h5
              have : g = w.heap.size := by simpa [Value.ownBlock] using h5
              omega
            · have hr' := run_append_grow (P := Tryd.prog) w 25 o.type 5 i (.int .u8 0) Tryd.underlying25 hi hz ⟨g, 0, none⟩ xs.length c (u8s xs) (by rw [hsize, hlen]; omega) (fun j u hu => by
                rw [Addr.add_mid, Nat.zero_add, cell_of_row w g j cur 5 (0, 0) g3, ← hu, ← g7, List.getElem?_take, if_pos (by have := (List.getElem?_eq_some_iff.1 hu).1; omega)]; simp) ad m.length cap (u8s m) (by rw [hsize, hlenm]; omega) hnews (by omega) (by omega) (growslice_fits (by omega) (by rw [hby]; omega))
              rw [hr] at hr'
              injection hr' with e1 e2
              rw [e2]
              exact World.cell?_of_block (a := ⟨g, o', none⟩) (heap_alloc_old w.drew _ hb)
      · exact World.cell?_of_block (a := ⟨b, o', none⟩) (h3.block b hb fun e => hbv e.symm)
    · obtain ⟨-, ⟨rfl, -⟩ | ⟨g, c, cur, rfl, -, h6, -⟩⟩ := h2
      · cases hb
      · obtain rfl : b = g := by simpa [blks] using hb
        rcases h5 with h5 | h5
        · exact .inl (blk_own (by rw [← h5]; rfl))
        · obtain rfl : b = w.heap.size := by simpa [Value.ownBlock] using h5
          exact .inr (Nat.le_refl _)
/-- The same, as a plain region's operation. -/
theorem wpList_appK {ops : Array Oper} {rest : List Oper} {o : Oper} {a : Act} {w : World} {Q : Exit → Act → World → Prop} (hw : Region.wanted o (yielded ops a.tmps) = true) (s x : Operand)
    (ho : o.op = .call { callee := .builtin .append, args := #[s, x], argTypes := #[25, 25] }) (base : Nat) {v : Value} {xs m : List Int} (hs : a.eval s = v) (hown : OwnBytes w base v xs)
    (hx : Tx w (a.eval x) m) (hl : xs.length + m.length ≤ 1099511627776) (hbase : base ≤ w.heap.size)
    (h : ∀ v' w', OwnBytes w' base v' (xs ++ m) → Below base w w' → (∀ gw, (∀ g ∈ blks v, g ≠ gw) → Gr w w' gw v xs.length v' ∧ (gw < w.heap.size → w'.heap[gw]? = w.heap[gw]?)) → wpList Tryd.prog ops Q rest (a.put o.dst v') w') :
    wpList Tryd.prog ops Q (o :: rest) a w := by
  unfold wpList
  rw [if_pos hw]
  exact .inl (OpV.wp ((app_keeps s x ho hs hown hx hl hbase).mono fun v' w' ⟨h1, h2, h3⟩ => h v' w' h1 h2 h3))
end Go.Proofs.YtaabcllghniaoaaDoor
