/- A region that draws its order, walked by the values that its operations leave: behind it the frame is known again. -/
import Derived.Test.YtofoihebhdpjlabDoorK4
namespace Go.Proofs.YtofoihebhdpjlabDoor
open Go Go.RowKit

section
variable {P : Program} {ops : Array Oper} {Q : Exit → Act → World → Prop}

/-- The frame with each operation's value in its slot. -/
def putAll (val : Nat → Value) : Nat → List Oper → Act → Act
  | _, [], a => a
  | i, o :: r, a => putAll val (i + 1) r (a.put o.dst (val i))
theorem putAll_size (val : Nat → Value) : ∀ (r : List Oper) (i : Nat) (a : Act), (putAll val i r a).tmps.size = a.tmps.size
  | [], _, _ => rfl
  | o :: r, i, a => by rw [putAll, putAll_size val r, size_put]
theorem defers_put (a : Act) (d : Option Tmp) (v : Value) : (a.put d v).defers = a.defers := by cases d <;> rfl
theorem putAll_defers (val : Nat → Value) : ∀ (r : List Oper) (i : Nat) (a : Act), (putAll val i r a).defers = a.defers
  | [], _, _ => rfl
  | o :: r, i, a => by rw [putAll, putAll_defers val r, defers_put]
theorem getD_put_ne (a : Act) (d : Option Tmp) (s : Nat) (v : Value) (h : d ≠ some s) : (a.put d v).tmps.getD s undef = a.tmps.getD s undef := by
  cases d with
  | none => rfl
  | some d => exact getD_put_other a d s v (fun e => h (by rw [e]))
theorem putAll_other (val : Nat → Value) (s : Nat) : ∀ (r : List Oper) (i : Nat) (a : Act), (∀ o ∈ r, o.dst ≠ some s) → (putAll val i r a).tmps.getD s undef = a.tmps.getD s undef
  | [], _, _, _ => rfl
  | o :: r, i, a, h => by
    rw [putAll, putAll_other val s r (i + 1) _ (fun o' ho => h o' (by simp [ho])), getD_put_ne _ _ _ _ (h o (by simp))]
theorem putAll_at (val : Nat → Value) (s : Nat) : ∀ (r : List Oper) (i : Nat) (a : Act) (j : Nat) (o : Oper), s < a.tmps.size → r[j]? = some o → o.dst = some s → (∀ k o', r[k]? = some o' → o'.dst = some s → k = j) → (putAll val i r a).tmps.getD s undef = val (i + j)
  | [], _, _, _, _, _, hj, _, _ => by simp at hj
  | o :: r, i, a, 0, o', hs, hj, hd, hu => by
    obtain rfl : o = o' := by simpa using hj
    rw [putAll, putAll_other val s r (i + 1) _ (fun o' ho e => ?_), hd, getD_put_same _ _ _ hs, Nat.add_zero]
    obtain ⟨k, hk⟩ := List.mem_iff_getElem?.1 ho
    have := hu (k + 1) o' (by simpa using hk) e
    omega
  | o :: r, i, a, j + 1, o', hs, hj, hd, hu => by
    rw [putAll, putAll_at val s r (i + 1) _ j o' (by rw [size_put]; exact hs) (by simpa using hj) hd (fun k o'' hk he => by
      have := hu (k + 1) o'' (by simpa using hk) he
      omega)]
    rw [Nat.add_assoc, Nat.add_comm 1]
theorem act_ext {a b : Act} (hs : a.tmps.size = b.tmps.size) (hd : a.defers = b.defers) (h : ∀ s, s < a.tmps.size → a.tmps.getD s undef = b.tmps.getD s undef) : a = b := by
  obtain ⟨t, d⟩ := a
  obtain ⟨t', d'⟩ := b
  simp only at hs hd h
  subst hd
  congr 1
  apply Array.ext hs
  intro i h1 h2
  have := h i h1
  simpa [Array.getD, h1, h2] using this

/-- What stands while a region's operations come up. -/
structure Vals (ops : Array Oper) (a0 : Act) (val : Nat → Value) (J : (Nat → Bool) → World → Prop) (L : Nat → Bool) (a : Act) (w : World) : Prop where
  j : J L w
  size : a.tmps.size = a0.tmps.size
  defers : a.defers = a0.defers
  closed : ∀ (i : Nat) (o : Oper), ops[i]? = some o → L i = true → ∀ e ∈ o.after, Region.binds .any e = true → L e.on = true
  old : ∀ s, (∀ (i : Nat) (o : Oper), ops[i]? = some o → o.dst = some s → L i = false) → a.tmps.getD s undef = a0.tmps.getD s undef
  fact : ∀ (i : Nat) (o : Oper) d, ops[i]? = some o → o.dst = some d → L i = true → a.tmps.getD d undef = val i

/-- Each operation waits for earlier ones alone; its slot, if it has one, is among the frame's, and no other has that slot. -/
def plainC (ops : Array Oper) (n : Nat) : Bool :=
  (List.range ops.size).all fun i => match ops[i]? with
    | none => true
    | some o => o.after.toList.all (fun e => !Region.binds .any e || decide (e.on < i)) && (match o.dst with | none => true | some d => decide (d < n)) &&
      (List.range ops.size).all fun j => i == j || o.dst == none || (match ops[j]? with | none => true | some o' => o.dst != o'.dst)
theorem plainC_spec {n : Nat} (h : plainC ops n = true) (i : Nat) (o : Oper) (ho : ops[i]? = some o) :
    (∀ e ∈ o.after, Region.binds .any e = true → e.on < i) ∧ (∀ d, o.dst = some d → d < n) ∧ ∀ (j : Nat) (o' : Oper) d, ops[j]? = some o' → o.dst = some d → o'.dst = some d → i = j := by
  have hi : i < ops.size := (Array.getElem?_eq_some_iff.1 ho).1
  unfold plainC at h
  rw [List.all_eq_true] at h
  have h1 := h i (List.mem_range.2 hi)
  rw [ho] at h1
  simp only [Bool.and_eq_true] at h1
  obtain ⟨⟨h2, h3⟩, h4⟩ := h1
  refine ⟨fun e he hbd => ?_, fun d hd => ?_, fun j o' d hj e e' => ?_⟩
  · rw [List.all_eq_true] at h2
    simpa [hbd] using h2 e (by simpa using he)
  · simpa [hd] using h3
  · rw [List.all_eq_true] at h4
    have h5 := h4 j (List.mem_range.2 (Array.getElem?_eq_some_iff.1 hj).1)
    rw [hj] at h5
    simpa [e, e'] using h5

/-- A region that draws its order, by the values that its operations leave in whatever order. -/
theorem wp_region_vals {id : Nat} {a0 : Act} {w0 : World} (n : Nat) (hm : P.follows .mixedOrders = true) (hp : plainC ops n = true) (hn : a0.tmps.size = n)
    (val : Nat → Value) (J : (Nat → Bool) → World → Prop) (h0 : J (fun _ => false) { w0 with drawn := w0.drawn + 1 })
    (hstep : ∀ (L : Nat → Bool) (a : Act) (w : World) (i : Nat) (o : Oper), Vals ops a0 val J L a w → L i = false → ops[i]? = some o → (∀ e ∈ o.after, Region.binds .any e = true → L e.on = true) →
      ∀ K : Act → World → Prop, (∀ v w', (o.dst = none ∨ v = val i) → J (fun j => if j = i then true else L j) w' → K (a.put o.dst v) w') → wpOp P ops Q i K a w)
    (hend : ∀ L w, (∀ i, i < ops.size → L i = true) → J L w → Q .normal (putAll val 0 ops.toList a0) w) : (Code.region id ops true).wp P Q a0 w0 := by
  subst hn
  refine wp_region_inv hm (fun i o ho => (plainC_spec hp i o ho).1) (Vals ops a0 val J) ⟨h0, rfl, rfl, fun _ _ _ h => by (cases h), fun _ _ => rfl, fun _ _ _ _ _ h => by (cases h)⟩ ?_ ?_
  · intro L a w i o hF hL ho hd
    refine hstep L a w i o hF hL ho hd _ fun v w' hv hj => ?_
    refine ⟨hj, by rw [size_put]; exact hF.size, by rw [defers_put]; exact hF.defers, fun k ok hk hLk e he hb => ?_, fun s hs => ?_, fun k ok d hk hkd hLk => ?_⟩
    · by_cases hki : k = i
      · subst hki
        obtain rfl : o = ok := Option.some.inj (ho.symm.trans hk)
        show (if e.on = k then true else L e.on) = true
        rw [hd e he hb]; simp
      · have : L k = true := by simpa [hki] using hLk
        show (if e.on = i then true else L e.on) = true
        rw [hF.closed k ok hk this e he hb]; simp
    · have hds : o.dst ≠ some s := fun e => by
        have := hs i o ho e
        simp at this
      rw [getD_put_ne _ _ _ _ hds]
      refine hF.old s fun k ok hk hkd => ?_
      have := hs k ok hk hkd
      by_cases hki : k = i
      · simp [hki] at this
      · simpa [hki] using this
    · by_cases hki : k = i
      · subst hki
        obtain rfl : o = ok := Option.some.inj (ho.symm.trans hk)
        rw [hkd, getD_put_same _ _ _ (by rw [hF.size]; exact (plainC_spec hp k o ho).2.1 d hkd)]
        exact hv.resolve_left (by rw [hkd]; simp)
      · have hLk' : L k = true := by simpa [hki] using hLk
        rw [getD_put_ne _ _ _ _ (fun e => hki ((plainC_spec hp k ok hk).2.2 i o d ho hkd e))]
        exact hF.fact k ok d hk hkd hLk'
  · intro L a w hL hF
    have : a = putAll val 0 ops.toList a0 := by
      refine act_ext (by rw [putAll_size]; exact hF.size) (by rw [putAll_defers]; exact hF.defers) fun s hs => ?_
      by_cases h : ∃ (i : Nat) (o : Oper), ops[i]? = some o ∧ o.dst = some s
      · obtain ⟨i, o, ho, hd⟩ := h
        rw [hF.fact i o s ho hd (hL i (Array.getElem?_eq_some_iff.1 ho).1)]
        have := putAll_at val s ops.toList 0 a0 i o (by rw [← hF.size]; exact hs) (by simpa using ho) hd (fun k o' hk he => ((plainC_spec hp i o ho).2.2 k o' s (by simpa using hk) hd he).symm)
        rw [this, Nat.zero_add]
      · rw [putAll_other val s _ _ _ (fun o ho e => h (by
          obtain ⟨i, hi⟩ := List.mem_iff_getElem?.1 ho
          exact ⟨i, o, by simpa using hi, e⟩))]
        exact hF.old s fun i o ho hd => absurd ⟨i, o, ho, hd⟩ h
    rw [this]
    exact hend L w hL hF.j
/-- The step that is wanted, and the one that is passed over. -/
theorem step_do {a : Act} {w : World} {i : Nat} {o : Oper} {K : Act → World → Prop} (ho : ops[i]? = some o) (hw : Region.wanted o (yielded ops a.tmps) = true) (h : o.wp P a w K Q) : wpOp P ops Q i K a w := by
  unfold wpOp; simp only [ho, hw, if_true]; exact .inl h
theorem step_pass {a : Act} {w : World} {i : Nat} {o : Oper} {K : Act → World → Prop} (ho : ops[i]? = some o) (hw : Region.wanted o (yielded ops a.tmps) = false) (h : K (a.put o.dst undef) w) : wpOp P ops Q i K a w := by
  unfold wpOp; simp only [ho, hw, Bool.false_eq_true, if_false]; exact h
theorem wanted_not {o og : Oper} {a : Act} {g d : Nat} {b b' : Bool} (h : o.guard = some (g, b)) (hg : ops[g]? = some og) (hd : og.dst = some d) (hv : a.tmps.getD d undef = .bool b') (hb : b ≠ b') : Region.wanted o (yielded ops a.tmps) = false := by
  have h1 : a.tmps[d]? = some (.bool b') := by
    by_cases hs : d < a.tmps.size
    · simp [Array.getD, hs] at hv; simp [hs, hv]
    · simp [Array.getD, hs, undef] at hv
  simp [Region.wanted, h, yielded, hg, hd, h1, Ne.symm hb]
theorem wanted_so {o og : Oper} {a : Act} {g d : Nat} {b : Bool} (h : o.guard = some (g, b)) (hg : ops[g]? = some og) (hd : og.dst = some d) (hv : a.tmps.getD d undef = .bool b) : Region.wanted o (yielded ops a.tmps) = true := by
  have h1 : a.tmps[d]? = some (.bool b) := by
    by_cases hs : d < a.tmps.size
    · simp [Array.getD, hs] at hv; simp [hs, hv]
    · simp [Array.getD, hs, undef] at hv
  simp [Region.wanted, h, yielded, hg, hd, h1]
/-- A slot that holds what it held ahead of the region: whatever writes it waits for operation i, which has not come up. -/
theorem slotv {a0 : Act} {val : Nat → Value} {J : (Nat → Bool) → World → Prop} {L : Nat → Bool} {a : Act} {w : World} (h : Vals ops a0 val J L a w) (i : Nat) (hi : L i = false) (s : Nat)
    (hB : (ops.toList.all fun o => o.dst != some s || o.after.toList.any fun e => e.on == i && Region.binds .any e) = true) : a.tmps.getD s undef = a0.tmps.getD s undef := by
  refine h.old s fun k o ho e => ?_
  have h1 := List.all_eq_true.1 hB o (by rw [List.mem_iff_getElem?]; exact ⟨k, by simpa using ho⟩)
  simp only [e, bne_self_eq_false, Bool.false_or] at h1
  cases hk : L k with
  | false => rfl
  | true =>
    obtain ⟨ed, he, h2⟩ := List.any_eq_true.1 h1
    simp only [Bool.and_eq_true, beq_iff_eq] at h2
    have := h.closed k o ho hk ed (by simpa using he) h2.2
    rw [h2.1, hi] at this
    cases this
/-- The value of an operation that this one waits for. -/
theorem valv {a0 : Act} {val : Nat → Value} {J : (Nat → Bool) → World → Prop} {L : Nat → Bool} {a : Act} {w : World} (h : Vals ops a0 val J L a w) {after : Array Edge} (hd : ∀ e ∈ after, Region.binds .any e = true → L e.on = true) (k : Nat) {o : Oper} {s : Nat} (ho : ops[k]? = some o) (hs : o.dst = some s)
    (hB : (after.toList.any fun e => e.on == k && Region.binds .any e) = true) : a.tmps.getD s undef = val k := h.fact k o s ho hs (dep hd k hB)
end
end Go.Proofs.YtofoihebhdpjlabDoor
