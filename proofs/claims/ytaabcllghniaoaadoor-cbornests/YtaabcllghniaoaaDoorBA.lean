/- A text that a call made, as a text; append of a text, guarded or not. -/
import Derived.Test.YtaabcllghniaoaaDoorBF
namespace Go.Proofs.YtaabcllghniaoaaDoor
open Go Go.RowKit
theorem txt_same {w : World} {base n c : Nat} {a : Option Addr} {xs : List Int} (h : OwnBytes w base (.slice a n c) xs) (hb : Bys xs) : n = xs.length ∧ Txt w a c xs := by
  obtain ⟨a', c', e, hV⟩ := h.form hb
  have hno := own_none h
  simp only [Value.slice.injEq] at e
  obtain ⟨rfl, rfl, rfl⟩ := e
  exact ⟨rfl, hV, hno⟩
theorem own_base {w : World} {base g : Nat} {v : Value} {xs : List Int} (h : OwnBytes w base v xs) (hg : g ∈ blks v) : base ≤ g := by
  obtain ⟨h1, ⟨rfl, _⟩ | ⟨g', cap, cur, rfl, h3, _⟩⟩ := h
  · cases hg
  · obtain rfl : g = g' := by simpa [blks] using hg
    exact h3
/-- append of a text's bytes onto a row that the call has made; guarded or not. -/
theorem wpList_app {ops : Array Oper} {rest : List Oper} {o : Oper} {a : Act} {w : World} {Q : Exit → Act → World → Prop} (hw : Region.wanted o (yielded ops a.tmps) = true) (s x : Operand)
    (ho : o.op = .call { callee := .builtin .append, args := #[s, x], argTypes := #[25, 25] }) (base : Nat) {v : Value} {xs m : List Int} (hs : a.eval s = v) (hown : OwnBytes w base v xs) (bx : Bys xs)
    {sa : Option Addr} {len cap : Nat} (hx : a.eval x = .slice sa len cap) (hlen : len = m.length) (hm : Txt w sa cap m) (hl : xs.length + m.length ≤ 1099511627776) (hbase : base ≤ w.heap.size)
    (h : ∀ a' c' w', OwnBytes w' base (.slice a' (xs.length + m.length) c') (xs ++ m) → Txt w' a' c' (xs ++ m) → Below base w w' → wpList Tryd.prog ops Q rest (a.put o.dst (.slice a' (xs.length + m.length) c')) w') :
    wpList Tryd.prog ops Q (o :: rest) a w := by
  subst hlen
  unfold wpList
  rw [if_pos hw]
  refine .inl (OpV.wp ?_)
  refine (app_is s x ho hs hown ⟨sa, cap, hx, hm⟩ hl hbase).mono fun v' w' ⟨h1, ⟨r, h2, h3⟩, _⟩ => ?_
  have hb : Bys (xs ++ m) := fun y hy => (List.mem_append.1 hy).elim (bx y) (hm.1.2.2.2.1 y)
  obtain ⟨a', c', rfl, hV⟩ := h1.form hb
  have ht : Txt w' a' c' (xs ++ m) := ⟨hV, own_none h1⟩
  rw [List.length_append] at h1 ⊢
  exact h a' c' w' h1 ht ((Below.refl base w).grown h2 hbase fun g e => own_base hown (h3 g e))
end Go.Proofs.YtaabcllghniaoaaDoor
