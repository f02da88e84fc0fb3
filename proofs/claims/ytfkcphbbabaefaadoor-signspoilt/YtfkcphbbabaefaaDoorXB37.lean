/- Of the texts ST1: what the card of this claim reaches. -/
import Derived.Test.YtfkcphbbabaefaaDoorXB26
namespace Go.Proofs.YtfkcphbbabaefaaDoor
open Go Go.RowKit
theorem twin_is {w : World} {ta : Option Addr} {tc bA : Nat} {A : Array Value} {tA : TypeId} {m : List Int} (hm : Txt w ta tc m) (hl : m.length ≤ 1000) (hA : Own w bA A tA) :
    Calls Tryd.prog 6 #[.slice ta m.length tc] w fun e w' => ∃ ja jc bX X tX, e = .returned (.slice ja m.length jc) ∧ (∀ W, Own W bX X tX → H.OwnBytes W w.heap.size (.slice ja m.length jc) m) ∧ Own w' bX X tX ∧ (∀ b, b < w.heap.size → b ≠ bA → b ≠ bX) ∧ Below w.heap.size w w' := by
  refine (H.twin_any ta tc m w hm.1 hm.2 (by omega)).mono ?_
  rintro e w' ⟨ja, jc, rfl, hO, hV, hg⟩
  have hB : Below w.heap.size w w' := (Below.refl _ _).grown hg (Nat.le_refl _) (fun k e => by cases e)
  obtain ⟨h1, ⟨h2, h3⟩ | ⟨g, cap, cur, h2, h3, h4, h5⟩⟩ := hO
  · exact ⟨ja, jc, bA, A, tA, rfl, fun W _ => ⟨h1, .inl ⟨h2, h3⟩⟩, hA.below hB hA.lt, fun b _ hb => hb, hB⟩
  · exact ⟨ja, jc, g, cur, 5, rfl, fun W hW => ⟨h1, .inr ⟨g, cap, cur, h2, h3, hW, h5⟩⟩, h4, fun b hb _ e => by omega, hB⟩
theorem txt_of_own {w : World} {base : Nat} {ja : Option Addr} {jc : Nat} {m : List Int} (h : H.OwnBytes w base (.slice ja m.length jc) m) (hb : H.Bys m) : Txt w ja jc m := by
  obtain ⟨a, c, e, hv⟩ := h.form hb
  simp only [Value.slice.injEq] at e
  obtain ⟨rfl, -, rfl⟩ := e
  exact ⟨hv, h.none⟩
end Go.Proofs.YtfkcphbbabaefaaDoor
