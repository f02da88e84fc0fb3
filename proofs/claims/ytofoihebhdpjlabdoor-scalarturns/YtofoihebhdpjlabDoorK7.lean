/- Regions that draw their order and make memory; blocks that are kept. -/
import Derived.Test.YtofoihebhdpjlabDoorK6
namespace Go.Proofs.YtofoihebhdpjlabDoor
open Go Go.RowKit

section
variable {P : Program} {ops : Array Oper} {Q : Exit → Act → World → Prop}
theorem notyet {a0 : Act} {val : Nat → Value} {J : (Nat → Bool) → World → Prop} {L : Nat → Bool} {a : Act} {w : World} (h : Vals ops a0 val J L a w) (i : Nat) (hi : L i = false) (k : Nat) {o : Oper} (ho : ops[k]? = some o)
    (hB : (o.after.toList.any fun e => e.on == i && Region.binds .any e) = true) : L k = false := by
  cases hk : L k with
  | false => rfl
  | true =>
    obtain ⟨ed, he, h2⟩ := List.any_eq_true.1 hB
    simp only [Bool.and_eq_true, beq_iff_eq] at h2
    have := h.closed k o ho hk ed (by simpa using he) h2.2
    rw [h2.1, hi] at this
    cases this
theorem wp_store_own {op : Oper} {a : Act} {w : World} {K : Act → World → Prop} (ty : TypeId) (x y : Operand) (ho : op.op = .store ty x y)
    (b : Nat) (cells : Array Value) (hx : a.eval x = .pointer (some ⟨b, 0, none⟩)) (hy : a.eval y = .agg cells)
    {A : Array Value} {t : TypeId} (ht : Own w b A t) (hs : cells.size = A.size) (hi : (P.info? ty).map (·.size) = some cells.size) (h1 : cells.all (·.oneCell') = true) (hd : op.dst = none)
    (h : K a (w.setCells b 0 cells.toList)) : op.wp P a w K Q :=
  wp_store_mid ty x y ho b 0 cells hx hy (ht.there 0 _ (by omega)) hi h1 (by rw [hd]; exact h)

/-- What stands while a region's operations come up, whose values are known by facts. -/
structure Told (ops : Array Oper) (a0 : Act) (F : Nat → Value → Prop) (J : (Nat → Bool) → (Nat → Value) → World → Prop) (L : Nat → Bool) (vs : Nat → Value) (a : Act) (w : World) : Prop where
  j : J L vs w
  size : a.tmps.size = a0.tmps.size
  defers : a.defers = a0.defers
  closed : ∀ (i : Nat) (o : Oper), ops[i]? = some o → L i = true → ∀ e ∈ o.after, Region.binds .any e = true → L e.on = true
  old : ∀ s, (∀ (i : Nat) (o : Oper), ops[i]? = some o → o.dst = some s → L i = false) → a.tmps.getD s undef = a0.tmps.getD s undef
  fact : ∀ (i : Nat) (o : Oper) d, ops[i]? = some o → o.dst = some d → L i = true → a.tmps.getD d undef = vs i ∧ F i (vs i)
/-- A region that draws its order, by facts on the values that its operations leave. -/
theorem wp_region_told {id : Nat} {a0 : Act} {w0 : World} (n : Nat) (hm : P.follows .mixedOrders = true) (hp : plainC ops n = true) (hn : a0.tmps.size = n)
    (F : Nat → Value → Prop) (J : (Nat → Bool) → (Nat → Value) → World → Prop) (h0 : ∀ vs, J (fun _ => false) vs { w0 with drawn := w0.drawn + 1 })
    (hstep : ∀ (L : Nat → Bool) (vs : Nat → Value) (a : Act) (w : World) (i : Nat) (o : Oper), Told ops a0 F J L vs a w → L i = false → ops[i]? = some o → (∀ e ∈ o.after, Region.binds .any e = true → L e.on = true) →
      ∀ K : Act → World → Prop, (∀ v w', (o.dst = none ∨ F i v) → J (fun j => if j = i then true else L j) (fun j => if j = i then v else vs j) w' → K (a.put o.dst v) w') → wpOp P ops Q i K a w)
    (hend : ∀ L vs w, (∀ i, i < ops.size → L i = true) → J L vs w → (∀ (i : Nat) (o : Oper) d, ops[i]? = some o → o.dst = some d → F i (vs i)) → Q .normal (putAll vs 0 ops.toList a0) w) : (Code.region id ops true).wp P Q a0 w0 := by
  subst hn
  refine wp_region_inv hm (fun i o ho => (plainC_spec hp i o ho).1) (fun L a w => ∃ vs, Told ops a0 F J L vs a w) ⟨fun _ => undef, h0 _, rfl, rfl, fun _ _ _ h => by (cases h), fun _ _ => rfl, fun _ _ _ _ _ h => by (cases h)⟩ ?_ ?_
  · intro L a w i o ⟨vs, hF⟩ hL ho hd
    refine hstep L vs a w i o hF hL ho hd _ fun v w' hv hj => ?_
    refine ⟨fun j => if j = i then v else vs j, hj, by rw [size_put]; exact hF.size, by rw [defers_put]; exact hF.defers, fun k ok hk hLk e he hb => ?_, fun s hs => ?_, fun k ok d hk hkd hLk => ?_⟩
    · by_cases hki : k = i
      · subst hki
        obtain rfl : o = ok := Option.some.inj (ho.symm.trans hk)
        show (if e.on = k then true else L e.on) = true
        rw [hd e he hb]; simp
      · have : L k = true := by simpa [hki] using hLk
        show (if e.on = i then true else L e.on) = true
        rw [hF.closed k ok hk this e he hb]; simp
    · have hds : o.dst ≠ some s := fun e => by
        have := hs i o ho e
        simp at this
      rw [getD_put_ne _ _ _ _ hds]
      refine hF.old s fun k ok hk hkd => ?_
      have := hs k ok hk hkd
      by_cases hki : k = i
      · simp [hki] at this
      · simpa [hki] using this
    · by_cases hki : k = i
      · subst hki
        obtain rfl : o = ok := Option.some.inj (ho.symm.trans hk)
        rw [hkd, getD_put_same _ _ _ (by rw [hF.size]; exact (plainC_spec hp k o ho).2.1 d hkd)]
        exact ⟨(if_pos rfl).symm, by rw [if_pos rfl]; exact hv.resolve_left (by rw [hkd]; simp)⟩
      · have hLk' : L k = true := by simpa [hki] using hLk
        rw [getD_put_ne _ _ _ _ (fun e => hki ((plainC_spec hp k ok hk).2.2 i o d ho hkd e))]
        simp only [hki, if_false]
        exact hF.fact k ok d hk hkd hLk'
  · intro L a w hL ⟨vs, hF⟩
    have : a = putAll vs 0 ops.toList a0 := by
      refine act_ext (by rw [putAll_size]; exact hF.size) (by rw [putAll_defers]; exact hF.defers) fun s hs => ?_
      by_cases h : ∃ (i : Nat) (o : Oper), ops[i]? = some o ∧ o.dst = some s
      · obtain ⟨i, o, ho, hd⟩ := h
        rw [(hF.fact i o s ho hd (hL i (Array.getElem?_eq_some_iff.1 ho).1)).1]
        have := putAll_at vs s ops.toList 0 a0 i o (by rw [← hF.size]; exact hs) (by simpa using ho) hd (fun k o' hk he => ((plainC_spec hp i o ho).2.2 k o' s (by simpa using hk) hd he).symm)
        rw [this, Nat.zero_add]
      · rw [putAll_other vs s _ _ _ (fun o ho e => h (by
          obtain ⟨i, hi⟩ := List.mem_iff_getElem?.1 ho
          exact ⟨i, o, by simpa using hi, e⟩))]
        exact hF.old s fun i o ho hd => absurd ⟨i, o, ho, hd⟩ h
    rw [this]
    exact hend L vs w hL hF.j fun i o d ho hd => (hF.fact i o d ho hd (hL i (Array.getElem?_eq_some_iff.1 ho).1)).2
theorem slott {a0 : Act} {F : Nat → Value → Prop} {J : (Nat → Bool) → (Nat → Value) → World → Prop} {L : Nat → Bool} {vs : Nat → Value} {a : Act} {w : World} (h : Told ops a0 F J L vs a w) (i : Nat) (hi : L i = false) (s : Nat)
    (hB : (ops.toList.all fun o => o.dst != some s || o.after.toList.any fun e => e.on == i && Region.binds .any e) = true) : a.tmps.getD s undef = a0.tmps.getD s undef := by
  refine h.old s fun k o ho e => ?_
  have h1 := List.all_eq_true.1 hB o (by rw [List.mem_iff_getElem?]; exact ⟨k, by simpa using ho⟩)
  simp only [e, bne_self_eq_false, Bool.false_or] at h1
  cases hk : L k with
  | false => rfl
  | true =>
    obtain ⟨ed, he, h2⟩ := List.any_eq_true.1 h1
    simp only [Bool.and_eq_true, beq_iff_eq] at h2
    have := h.closed k o ho hk ed (by simpa using he) h2.2
    rw [h2.1, hi] at this
    cases this
theorem factt {a0 : Act} {F : Nat → Value → Prop} {J : (Nat → Bool) → (Nat → Value) → World → Prop} {L : Nat → Bool} {vs : Nat → Value} {a : Act} {w : World} (h : Told ops a0 F J L vs a w) {after : Array Edge} (hd : ∀ e ∈ after, Region.binds .any e = true → L e.on = true) (k : Nat) {o : Oper} {s : Nat} (ho : ops[k]? = some o) (hs : o.dst = some s)
    (hB : (after.toList.any fun e => e.on == k && Region.binds .any e) = true) : a.tmps.getD s undef = vs k ∧ F k (vs k) := h.fact k o s ho hs (dep hd k hB)
end

/-- Blocks of the call's own, with what they hold, above what was there ahead of it. -/
def Kp (l : List (Nat × Array Value × TypeId)) (w0 w : World) : Prop := (∀ p ∈ l, Own w p.1 p.2.1 p.2.2) ∧ Below w0.heap.size w0 w
theorem Kp.at {l : List (Nat × Array Value × TypeId)} {w0 w : World} (h : Kp l w0 w) (b : Nat) (A : Array Value) (t : TypeId) (hm : (b, A, t) ∈ l) : Own w b A t := h.1 _ hm
theorem Kp.below {l : List (Nat × Array Value × TypeId)} {w0 w w' : World} (h : Kp l w0 w) (hB : Below w.heap.size w w') : Kp l w0 w' :=
  ⟨fun p hp => (h.1 p hp).below hB (h.1 p hp).lt, h.2.trans (hB.mono h.2.size)⟩
theorem Kp.drew {l : List (Nat × Array Value × TypeId)} {w0 w : World} (h : Kp l w0 w) : Kp l w0 { w with drawn := w.drawn + 1 } := ⟨h.1, h.2.trans ((Below.refl _ _).drew)⟩
theorem Kp.nil (w : World) : Kp [] w w := ⟨fun _ h => by (cases h), Below.refl _ _⟩
/-- A block more. -/
theorem Kp.alloc {l : List (Nat × Array Value × TypeId)} {w0 w : World} (h : Kp l w0 w) (A : Array Value) (t : TypeId) : Kp ((w.heap.size, A, t) :: l) w0 (w.alloc (.cells A t)) := by
  refine ⟨fun p hp => ?_, (h.below ((Below.refl _ _).alloc (Nat.le_refl _) _)).2⟩
  rcases List.mem_cons.1 hp with rfl | hp
  · exact own_new w A t
  · exact (h.1 p hp).alloc _
/-- A block written over. -/
theorem Kp.set {l : List (Nat × Array Value × TypeId)} {w0 w : World} {b : Nat} {A A' : Array Value} {t : TypeId} (h : Kp ((b, A, t) :: l) w0 w) (hl : ∀ p ∈ l, p.1 ≠ b) (hb : w0.heap.size ≤ b) (hs : A'.size = A.size) : Kp ((b, A', t) :: l) w0 (w.setCells b 0 A'.toList) := by
  refine ⟨fun p hp => ?_, Below.setCells _ _ _ _ hb h.2⟩
  rcases List.mem_cons.1 hp with rfl | hp
  · exact own_setCells (h.at b A t (.head _)) hs
  · exact Own.setCells_other (hl p hp) _ _ _ (h.1 p (by simp [hp]))
theorem Kp.setCell {l : List (Nat × Array Value × TypeId)} {w0 w : World} {b i : Nat} {v : Value} {A : Array Value} {t : TypeId} (h : Kp ((b, A, t) :: l) w0 w) (hl : ∀ p ∈ l, p.1 ≠ b) (hb : w0.heap.size ≤ b) : Kp ((b, A.setIfInBounds i v, t) :: l) w0 (w.setCell ⟨b, i, none⟩ v) := by
  refine ⟨fun p hp => ?_, h.2.setCell hb v⟩
  rcases List.mem_cons.1 hp with rfl | hp
  · exact (h.at b A t (.head _)).setCell i v
  · exact (h.1 p (by simp [hp])).setCell_other (Ne.symm (hl p hp)) v
theorem Kp.sub {l l' : List (Nat × Array Value × TypeId)} {w0 w : World} (h : Kp l w0 w) (hs : ∀ p ∈ l', p ∈ l) : Kp l' w0 w := ⟨fun p hp => h.1 p (hs p hp), h.2⟩
end Go.Proofs.YtofoihebhdpjlabDoor
