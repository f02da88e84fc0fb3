/- Texts as values of their own: what is known of one and its block; rows of texts. -/
import Derived.Test.YtgibllaifnnfkaaDoorRG
import Derived.Test.YtgibllaifnnfkaaDoorSG0
namespace Go.Proofs.YtgibllaifnnfkaaDoor
open Go Go.RowKit
/-- A value that is a text. -/
def Tx (w : World) (v : Value) (m : List Int) : Prop := ∃ a c, v = .slice a m.length c ∧ Txt w a c m
theorem Tx.below {w w' : World} {v : Value} {m : List Int} (h : Tx w v m) (hB : Below w.heap.size w w') : Tx w' v m := by
  obtain ⟨a, c, e, ht⟩ := h
  exact ⟨a, c, e, ht.below hB⟩
theorem Tx.one {w : World} {v : Value} {m : List Int} (h : Tx w v m) : v.oneCell' = true := by
  obtain ⟨a, c, rfl, -⟩ := h
  rfl
theorem range_of_block {w w' : World} {b o : Nat} {cs : List Value} (h : w'.heap[b]? = w.heap[b]?) (hr : w.rangeAt b o cs) : w'.rangeAt b o cs := fun j v hv => by
  rw [World.cell?_of_block (a := ⟨b, o + j, none⟩) h]
  exact hr j v hv
/-- The text m, by its own block alone. -/
def txR (m : List Int) : Rel where
  r := fun w v => Tx w v m
  loc := fun w w' v hg ⟨a, c, e, ⟨h1, h2, h3, h4, h5⟩, h6⟩ => by
    refine ⟨a, c, e, ⟨h1, h2, h3, h4, fun hp => ?_⟩, h6⟩
    obtain ⟨b, o, ea, hr⟩ := h5 hp
    exact ⟨b, o, ea, range_of_block (hg b (by rw [e, ea]; exact .head _)) hr⟩
/-- Values that are texts, one by one. -/
def TxL (w : World) : List Value → List (List Int) → Prop
  | [], [] => True
  | v :: vs, m :: ms => Tx w v m ∧ TxL w vs ms
  | _, _ => False
theorem TxL.len {w : World} : ∀ {vs : List Value} {ms : List (List Int)}, TxL w vs ms → vs.length = ms.length
  | [], [], _ => rfl
  | _ :: _, _ :: _, h => congrArg (· + 1) (TxL.len h.2)
  | [], _ :: _, h => h.elim
  | _ :: _, [], h => h.elim
theorem TxL.at {w : World} : ∀ {vs : List Value} {ms : List (List Int)}, TxL w vs ms → ∀ (i : Nat) (m : List Int), ms[i]? = some m → ∃ v, vs[i]? = some v ∧ Tx w v m
  | [], [], _, i, m, e => by simp at e
  | v :: _, _ :: _, h, 0, m, e => by
    simp only [List.getElem?_cons_zero, Option.some.injEq] at e
    subst e
    exact ⟨v, rfl, h.1⟩
  | _ :: _, _ :: _, h, i + 1, m, e => by
    have := TxL.at h.2 i m (by simpa using e)
    simpa using this
  | [], _ :: _, h, _, _, _ => h.elim
  | _ :: _, [], h, _, _, _ => h.elim
theorem rows_at {w : World} {g : Nat} {t : TypeId} {vs : List Value} {ms : List (List Int)} (ho : RowAt w g vs.toArray t) (h : TxL w vs ms) (hl : decide (vs.length ≤ maxLen) = true := by rfl) : H.RowsV w (some ⟨g, 0, none⟩) vs.length vs.length ms := by
  refine ⟨h.len, Nat.le_refl _, of_decide_eq_true hl, fun _ => ⟨g, 0, rfl, fun i m hm => ?_⟩⟩
  obtain ⟨v, hv, a, c, rfl, h1, h2⟩ := h.at i m hm
  refine ⟨a, c, ?_, h1, h2⟩
  rw [Nat.zero_add]
  exact ho.cell (by simpa using hv)
theorem own_none {w : World} {base n cap : Nat} {a : Option Addr} {xs : List Int} (h : H.OwnBytes w base (.slice a n cap) xs) : a = none → cap = 0 := fun e => by
  obtain ⟨h1, ⟨h2, h3⟩ | ⟨g, c, cur, h2, _⟩⟩ := h
  · simp at h2; exact h2.2.2
  · simp [e] at h2
/-- A text that the call made. -/
theorem tx_own {w w' : World} {v : Value} {m : List Int} (h : H.OwnBytes w' w.heap.size v m) (hb : H.Bys m) : (txR m).r w' v ∧ ∀ g ∈ blks v, w.heap.size ≤ g ∧ g < w'.heap.size := by
  obtain ⟨a, c, rfl, hv⟩ := h.form hb
  refine ⟨⟨a, c, rfl, hv, own_none h⟩, fun g hg => ?_⟩
  obtain ⟨h1, ⟨h2, h3⟩ | ⟨b, cap, cur, h2, h3, h4, h5⟩⟩ := h
  · simp only [Value.slice.injEq] at h2
    obtain ⟨rfl, -, -⟩ := h2
    cases hg
  · simp only [Value.slice.injEq] at h2
    obtain ⟨rfl, -, -⟩ := h2
    obtain rfl : g = b := by simpa [blks] using hg
    exact ⟨h3, Own.lt h4⟩
theorem tx_bytes {w : World} {b n : Nat} {t : TypeId} (h : Own w b (B32 (bdig n)) t) : Tx w (.slice (some ⟨b, 0, none⟩) 32 32) (by32 n) := ⟨_, _, by rw [by32_length], by rw [Txt, by32_length]; exact ⟨bytes_own h, fun e => by cases e⟩⟩
theorem tx_byte {w : World} {b : Nat} {t : TypeId} {x : Int} (h : RowAt w b #[.int .u8 x] t) (h0 : 0 ≤ x ∧ x < 256) : Tx w (.slice (some ⟨b, 0, none⟩) 1 1) [x] := ⟨_, _, rfl, ⟨rfl, Nat.le_refl _, by decide, fun y hy => by rw [List.mem_singleton] at hy; rw [hy]; exact h0, fun _ => ⟨b, 0, rfl, fun j v hv => by
  rcases j with _ | j
  · obtain rfl : Value.int .u8 x = v := by simpa [H.u8s] using hv
    exact h.cell rfl
  · simp [H.u8s] at hv⟩⟩, fun e => by cases e⟩
theorem txt_byte {w : World} {b : Nat} {t : TypeId} {x : Int} (h : RowAt w b #[.int .u8 x] t) (h0 : 0 ≤ x ∧ x < 256) : Txt w (some ⟨b, 0, none⟩) 1 [x] := by
  obtain ⟨a, c, e, ht⟩ := tx_byte h h0
  simp only [Value.slice.injEq] at e
  obtain ⟨rfl, -, rfl⟩ := e
  exact ht
theorem txt_nil (w : World) : Txt w none 0 [] := ⟨⟨rfl, Nat.le_refl _, Nat.zero_le _, fun y hy => (by cases hy), fun hp => absurd hp (by decide)⟩, fun _ => rfl⟩
end Go.Proofs.YtgibllaifnnfkaaDoor
