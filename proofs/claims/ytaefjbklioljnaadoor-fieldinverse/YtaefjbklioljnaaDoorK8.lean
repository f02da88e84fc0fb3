/- Two blocks that are made and written within a region that draws its order. -/
import Derived.Test.YtaefjbklioljnaaDoorE0
namespace Go.Proofs.YtaefjbklioljnaaDoor
open Go.RowKit
/-- A block that is made when m, and written over when s. -/
def Md (l : List (Nat × Array Value × TypeId)) (w0 : World) (A0 A1 : Array Value) (t : TypeId) (m s : Bool) (v : Value) (w : World) : Prop :=
  m = true → ∃ g, v = .pointer (some ⟨g, 0, none⟩) ∧ w0.heap.size ≤ g ∧ (∀ p ∈ l, p.1 ≠ g) ∧ Own w g (if s = true then A1 else A0) t
theorem Md.below {l : List (Nat × Array Value × TypeId)} {w0 : World} {A0 A1 : Array Value} {t : TypeId} {m s : Bool} {v : Value} {w w' : World} (h : Md l w0 A0 A1 t m s v w) (hB : Below w.heap.size w w') : Md l w0 A0 A1 t m s v w' := fun hm => by
  obtain ⟨g, h1, h2, h3, h4⟩ := h hm
  exact ⟨g, h1, h2, h3, h4.below hB h4.lt⟩
/-- Blocks that are kept, and two that are made. -/
structure J2 (l : List (Nat × Array Value × TypeId)) (w0 : World) (A0 A1 A2 : Array Value) (t : TypeId) (m s : Bool) (v : Value) (m' s' : Bool) (v' : Value) (w : World) : Prop where
  kp : Kp l w0 w
  one : Md l w0 A0 A1 t m s v w
  two : Md l w0 A0 A2 t m' s' v' w
  ne : m = true → m' = true → v ≠ v'
theorem J2.swap {l : List (Nat × Array Value × TypeId)} {w0 : World} {A0 A1 A2 : Array Value} {t : TypeId} {m s : Bool} {v : Value} {m' s' : Bool} {v' : Value} {w : World} (h : J2 l w0 A0 A1 A2 t m s v m' s' v' w) : J2 l w0 A0 A2 A1 t m' s' v' m s v w :=
  ⟨h.kp, h.two, h.one, fun h1 h2 e => h.ne h2 h1 e.symm⟩
theorem J2.below {l : List (Nat × Array Value × TypeId)} {w0 : World} {A0 A1 A2 : Array Value} {t : TypeId} {m s : Bool} {v : Value} {m' s' : Bool} {v' : Value} {w w' : World} (h : J2 l w0 A0 A1 A2 t m s v m' s' v' w) (hB : Below w.heap.size w w') : J2 l w0 A0 A1 A2 t m s v m' s' v' w' :=
  ⟨h.kp.below hB, h.one.below hB, h.two.below hB, h.ne⟩
theorem J2.start {l : List (Nat × Array Value × TypeId)} {w0 : World} {A0 A1 A2 : Array Value} {t : TypeId} {s : Bool} {v : Value} {s' : Bool} {v' : Value} {w : World} (h : Kp l w0 w) : J2 l w0 A0 A1 A2 t false s v false s' v' { w with drawn := w.drawn + 1 } :=
  ⟨h.drew, fun e => by (cases e), fun e => by (cases e), fun e => by (cases e)⟩
theorem J2.alloc {l : List (Nat × Array Value × TypeId)} {w0 : World} {A0 A1 A2 : Array Value} {t : TypeId} {m s : Bool} {v : Value} {m' s' : Bool} {v' : Value} {w : World} (h : J2 l w0 A0 A1 A2 t m s v m' s' v' w) (hs : s = false) : J2 l w0 A0 A1 A2 t true s (.pointer (some ⟨w.heap.size, 0, none⟩)) m' s' v' (w.alloc (.cells A0 t)) := by
  subst hs
  have hB : Below w.heap.size w (w.alloc (.cells A0 t)) := (Below.refl _ _).alloc (Nat.le_refl _) _
  refine ⟨h.kp.below hB, fun _ => ⟨_, rfl, h.kp.2.size, fun p hp => Nat.ne_of_lt (h.kp.1 p hp).lt, own_new w A0 t⟩, h.two.below hB, fun _ hm' e => ?_⟩
  obtain ⟨g, h1, _, _, h4⟩ := h.two hm'
  rw [h1] at e
  simp only [Value.pointer.injEq, Option.some.injEq, Addr.mk.injEq, and_true] at e
  have := h4.lt
  omega
theorem J2.at {l : List (Nat × Array Value × TypeId)} {w0 : World} {A0 A1 A2 : Array Value} {t : TypeId} {m s : Bool} {v : Value} {m' s' : Bool} {v' : Value} {w : World} {g : Nat} (h : J2 l w0 A0 A1 A2 t m s v m' s' v' w) (hm : m = true) (hv : v = .pointer (some ⟨g, 0, none⟩)) : w0.heap.size ≤ g ∧ (∀ p ∈ l, p.1 ≠ g) ∧ Own w g (if s = true then A1 else A0) t := by
  obtain ⟨g', h1, h2, h3, h4⟩ := h.one hm
  rw [hv] at h1
  simp only [Value.pointer.injEq, Option.some.injEq, Addr.mk.injEq, and_true] at h1
  subst h1
  exact ⟨h2, h3, h4⟩
theorem J2.store {l : List (Nat × Array Value × TypeId)} {w0 : World} {A0 A1 A2 : Array Value} {t : TypeId} {m s : Bool} {v : Value} {m' s' : Bool} {v' : Value} {w : World} {g : Nat} (h : J2 l w0 A0 A1 A2 t m s v m' s' v' w) (hm : m = true) (hv : v = .pointer (some ⟨g, 0, none⟩)) (hs : s = false) (hsz : A1.size = A0.size) : J2 l w0 A0 A1 A2 t m true v m' s' v' (w.setCells g 0 A1.toList) := by
  subst hs
  obtain ⟨h2, h3, h4⟩ := h.at hm hv
  refine ⟨⟨fun p hp => Own.setCells_other (h3 p hp) _ _ _ (h.kp.1 p hp), Below.setCells _ _ _ _ h2 h.kp.2⟩, fun _ => ⟨g, hv, h2, h3, own_setCells h4 hsz⟩, fun hm' => ?_, h.ne⟩
  obtain ⟨g', k1, k2, k3, k4⟩ := h.two hm'
  refine ⟨g', k1, k2, k3, Own.setCells_other (fun e => h.ne hm hm' ?_) _ _ _ k4⟩
  rw [hv, k1, e]
theorem J2.done {l : List (Nat × Array Value × TypeId)} {w0 : World} {A0 A1 A2 : Array Value} {t : TypeId} {m s : Bool} {v : Value} {m' s' : Bool} {v' : Value} {w : World} {g g' : Nat} (h : J2 l w0 A0 A1 A2 t m s v m' s' v' w) (hm : m = true) (hv : v = .pointer (some ⟨g, 0, none⟩)) (hs : s = true) (hm' : m' = true) (hv' : v' = .pointer (some ⟨g', 0, none⟩)) (hs' : s' = true) : Kp ((g, A1, t) :: (g', A2, t) :: l) w0 w := by
  subst hs hs'
  obtain ⟨_, _, h4⟩ := h.at hm hv
  obtain ⟨_, _, k4⟩ := h.swap.at hm' hv'
  refine ⟨fun p hp => ?_, h.kp.2⟩
  rcases List.mem_cons.1 hp with rfl | hp
  · exact h4
  · rcases List.mem_cons.1 hp with rfl | hp
    · exact k4
    · exact h.kp.1 p hp
end Go.Proofs.YtaefjbklioljnaaDoor
