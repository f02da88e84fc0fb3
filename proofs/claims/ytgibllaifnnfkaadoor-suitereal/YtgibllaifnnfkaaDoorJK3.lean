/- Small facts on slices of bytes, sums and Shas, for the laws' walks. -/
import Derived.Test.YtgibllaifnnfkaaDoorJW7
import Derived.Test.YtgibllaifnnfkaaDoorHK
import Derived.Test.YtgibllaifnnfkaaDoorKA
import Derived.Maps.AppendAt
import Derived.Laws.AppendOwnNone
namespace Go.Proofs.YtgibllaifnnfkaaDoor.J
open Go.RowKit

/-- A whole number, left over by n + 1. -/
theorem left_over (x : Int) (n : Nat) (hn : n ≤ 1000000) : ∃ r : Nat, wrap64 ((IntKind.u64.wrap x).tmod ((n : Int) + 1)) = (r : Int) ∧ r ≤ n := by
  have h0 : 0 ≤ IntKind.u64.wrap x := wrap_u64_nonneg x
  rw [Int.tmod_eq_emod_of_nonneg h0]
  have h1 := Int.emod_nonneg (IntKind.u64.wrap x) (show ((n : Int) + 1) ≠ 0 by omega)
  have h2 := Int.emod_lt_of_pos (IntKind.u64.wrap x) (show 0 < ((n : Int) + 1) by omega)
  refine ⟨(IntKind.u64.wrap x % ((n : Int) + 1)).toNat, ?_, by omega⟩
  rw [Int.toNat_of_nonneg h1]
  generalize IntKind.u64.wrap x % ((n : Int) + 1) = y at *
  unfold wrap64
  omega

theorem BytesV.take {w : World} {a : Option Addr} {len cap : Nat} {m : List Int} (h : BytesV w a len cap m) (q : Nat) (hq : q ≤ len) : BytesV w a q cap (m.take q) := by
  obtain ⟨h1, h2, h3, h4, h5⟩ := h
  refine ⟨by simp; omega, by omega, h3, fun x hx => h4 x (List.mem_of_mem_take hx), fun hp => ?_⟩
  obtain ⟨b, off, e, hr⟩ := h5 (by omega)
  exact ⟨b, off, e, by simpa using range_part hr 0 q⟩
theorem BytesV.drop {w : World} {a : Option Addr} {len cap : Nat} {m : List Int} (h : BytesV w a len cap m) (q : Nat) (hq : q ≤ len) : BytesV w (cutAddr a cap q) (len - q) (cap - q) (m.drop q) := by
  obtain ⟨h1, h2, h3, h4, h5⟩ := h
  refine ⟨by simp; omega, by omega, by omega, fun x hx => h4 x (List.mem_of_mem_drop hx), fun hp => ?_⟩
  obtain ⟨b, off, e, hr⟩ := h5 (by omega)
  refine ⟨b, off + q, ?_, ?_⟩
  · rw [cutAddr, if_neg (by omega), e]; simp [Addr.add_mid]
  · have := range_part hr q (m.drop q).length
    rwa [List.take_length] at this

theorem ShaAt.grown {w w' : World} {g b : Nat} {l : List Int} (h : ShaAt w b l) (hg : w.grownBy w' (some g)) (hb : b ≠ g) : ShaAt w' b l := by
  obtain ⟨bl, s, tl, htl, btl, ho, hst, hrest⟩ := h
  exact ⟨bl, s, tl, htl, btl, ho.grown hg hb, hst, hrest⟩
/-- The cells of a text's sum. -/
def dig (l : List Int) : Array Value := (u8s (digest l)).toArray
theorem dig_size (l : List Int) : (dig l).size = 32 := by rw [dig, List.size_toArray, u8s, List.length_map]; exact digest_length l
theorem dig_info (l : List Int) : (Tryd.prog.info? 22).map (·.size) = some (dig l).size := by rw [info25, dig_size]
theorem dig_one (l : List Int) : (dig l).all (·.oneCell') = true := all_oneCell_toArray (u8s_one _)
theorem dig_eq (l : List Int) (w : World) : (Op.equalIn 10000 22 (.agg (dig l)) (.agg (dig l))).run Tryd.prog w = .ok true w := by
  have := run_equalIn_ints (P := Tryd.prog) w 9998 22 5 32 .u8 Tryd.underlying22 Tryd.underlying5 info5s (digest l) (digest l) (digest_length l) (digest_length l)
  rw [beq_self_eq_true] at this
  exact this
theorem slice_nil (w : World) (g : Nat) : SliceOf w g (.slice none 0 0) [] := ⟨none, 0, 0, rfl, rfl, Nat.le_refl _, by decide, fun x hx => by simp at hx, fun hp => absurd hp (by decide)⟩
theorem bel {w a b : World} (h : Below w.heap.size w a) (k : Below a.heap.size a b) : Below w.heap.size w b := h.trans (k.mono h.size)
theorem belg {w a b : World} {g : Nat} (h : Below w.heap.size w a) (k : a.grownBy b (some g)) (hg : w.heap.size ≤ g) : Below w.heap.size w b := below_grown h k h.size hg


/-- A slice that the call itself has grown: its bytes are these. -/
def OwnBytes (w : World) (base : Nat) (v : Value) (xs : List Int) : Prop := w.ownsRow base 5 1 v xs.length (u8s xs)
theorem OwnBytes.form {w : World} {base : Nat} {v : Value} {xs : List Int} (h : OwnBytes w base v xs) (hx : Bys xs) : ∃ a cap, v = .slice a xs.length cap ∧ BytesV w a xs.length cap xs := by
  obtain ⟨h1, ⟨h2, h3⟩ | ⟨g, cap, cur, h2, h3, h4, h5, h6, h7, h8⟩⟩ := h
  · obtain rfl := List.eq_nil_of_length_eq_zero h3
    exact ⟨none, 0, h2, rfl, Nat.le_refl _, by decide, fun x hx => by simp at hx, fun hp => absurd hp (by decide)⟩
  · refine ⟨some ⟨g, 0, none⟩, cap, h2, rfl, h5, h6, hx, fun _ => ⟨g, 0, rfl, fun j v hv => ?_⟩⟩
    rw [Nat.zero_add, cell_of_row w g j cur 5 (0, 0) h4, ← hv, ← h8]
    have hj : j < xs.length := by
      have := (List.getElem?_eq_some_iff.1 hv).1
      simpa [u8s] using this
    rw [List.getElem?_take, if_pos (by omega)]; simp
theorem OwnBytes.grown {w w' : World} {base g : Nat} {v : Value} {xs : List Int} (h : OwnBytes w base v xs) (hg : w.grownBy w' (some g)) (hb : g < base) : OwnBytes w' base v xs := by
  obtain ⟨h1, h2 | ⟨g', cap, cur, h2, h3, h4, h5⟩⟩ := h
  · exact ⟨h1, .inl h2⟩
  · refine ⟨h1, .inr ⟨g', cap, cur, h2, h3, ?_, h5⟩⟩
    rw [hg.block g' (Array.getElem?_eq_some_iff.1 h4).1 (by simp; omega)]; exact h4
theorem OwnBytes.below {w w' : World} {base : Nat} {v : Value} {xs : List Int} (h : OwnBytes w base v xs) (hB : Below w.heap.size w w') : OwnBytes w' base v xs := by
  obtain ⟨h1, h2 | ⟨g', cap, cur, h2, h3, h4, h5⟩⟩ := h
  · exact ⟨h1, .inl h2⟩
  · refine ⟨h1, .inr ⟨g', cap, cur, h2, h3, ?_, h5⟩⟩
    rw [hB.block g' (Array.getElem?_eq_some_iff.1 h4).1]; exact h4
theorem OwnBytes.base_le {w : World} {base g : Nat} {v : Value} {xs : List Int} (h : OwnBytes w base v xs) (hv : v.ownBlock = some g) : base ≤ g := by
  obtain ⟨h1, ⟨rfl, _⟩ | ⟨g', cap, cur, rfl, h3, _⟩⟩ := h
  · simp [Value.ownBlock] at hv
  · have : g' = g := by simpa [Value.ownBlock] using hv
    omega
theorem ownBytes_nil (w : World) (base : Nat) : OwnBytes w base (.slice none 0 0) [] := ⟨rfl, .inl ⟨rfl, rfl⟩⟩

/-- append of the bytes of a slice onto a slice that the call has grown. -/
theorem wpList_append_bytes {w : World} {ops : Array Oper} {rest : List Oper} {o : Oper} {a : Act} {Q : Exit → Act → World → Prop} (hgd : o.guard = none) (s x : Operand)
    (ho : o.op = .call { callee := .builtin .append, args := #[s, x], argTypes := #[23, 23] })
    (base : Nat) (v : Value) (xs : List Int) (hs : a.eval s = v) (hown : OwnBytes w base v xs) (bx : Bys xs)
    (sa : Option Addr) (len cap : Nat) (m : List Int) (hx : a.eval x = .slice sa len cap) (hm : BytesV w sa len cap m) (hn : sa = none → cap = 0)
    (hl : xs.length + m.length ≤ 1099511627776) (hbase : base ≤ w.heap.size)
    (h : ∀ a' cap' w', OwnBytes w' base (.slice a' (xs.length + m.length) cap') (xs ++ m) → w.grownBy w' v.ownBlock → BytesV w' a' (xs.length + m.length) cap' (xs ++ m) → wpList Tryd.prog ops Q rest (a.put o.dst (.slice a' (xs.length + m.length) cap')) w') :
    wpList Tryd.prog ops Q (o :: rest) a w := by
  have hb : Bys (xs ++ m) := fun y hy => (List.mem_append.1 hy).elim (bx y) (hm.2.2.2.1 y)
  obtain ⟨i, hi, hz, hsize, hby⟩ : ∃ i, Tryd.prog.info? 5 = some i ∧ i.zero = some (.int .u8 0) ∧ i.size = 1 ∧ i.bytes = 1 := by
    have := info5
    cases hq : Tryd.prog.info? 5 with
    | none => simp [hq] at this
    | some i => exact ⟨i, rfl, by simp [hq] at this; exact this⟩
  have close : ∀ v' w', OwnBytes w' base v' (xs ++ m) → w.grownBy w' v.ownBlock → wpList Tryd.prog ops Q rest (a.put o.dst v') w' := fun v' w' h1 h2 => by
    obtain ⟨a', cap', rfl, hv⟩ := h1.form hb
    rw [List.length_append] at h1 hv ⊢
    exact h a' cap' w' h1 h2 hv
  cases sa with
  | none =>
    obtain rfl := hn rfl
    have h0 : len = 0 := by
      rcases Nat.eq_zero_or_pos len with h | h
      · exact h
      · obtain ⟨b, off, e, _⟩ := hm.2.2.2.2 h; cases e
    subst h0
    have : m = [] := List.eq_nil_of_length_eq_zero hm.1.symm
    subst this
    refine wpList_append_own_none hgd s x 23 ho base 5 i 1 Tryd.underlying23 hi v xs.length (u8s xs) hs hown hx ?_
    exact close v w (by rw [List.append_nil]; exact hown) ⟨rfl, rfl, rfl, Nat.le_refl _, fun _ _ _ => rfl⟩
  | some ad =>
    refine wpList_append_own_at (P := Tryd.prog) w hgd s x 23 ho base 5 i (.int .u8 0) 1 1 Tryd.underlying23 hi hz hsize hby rfl (by decide) v xs.length (u8s xs) hs hown ad len cap (u8s m) hx (by rw [u8s, List.length_map, ← hm.1]; omega) (fun j u hu => ?_) (u8s_one _) (by rw [hm.1]; unfold maxLen; omega) (by rw [hm.1]; omega) hbase ?_
    · have hj : j < m.length := by
        have := (List.getElem?_eq_some_iff.1 hu).1
        simpa [u8s] using this
      obtain ⟨b, off, e, hr⟩ := hm.2.2.2.2 (by rw [hm.1]; omega)
      simp only [Option.some.injEq] at e
      rw [e, Addr.add_mid]; exact hr j u hu
    · intro v' w' h1 h2 _ _
      refine close v' w' ?_ h2
      have e : len = m.length := hm.1
      subst e
      unfold OwnBytes
      rw [List.length_append, u8s, List.map_append]; exact h1
end Go.Proofs.YtgibllaifnnfkaaDoor.J
