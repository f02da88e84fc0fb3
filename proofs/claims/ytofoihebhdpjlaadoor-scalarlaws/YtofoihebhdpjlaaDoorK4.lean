/- A region that draws its order, walked by an invariant: whatever comes up next keeps it. -/
import Derived.Orders
import Derived.Deep.Quiet
import Derived.Test.YtofoihebhdpjlaaDoorK2
namespace Go.Proofs.YtofoihebhdpjlaaDoor
open Go Go.RowKit

section
variable {P : Program} {ops : Array Oper} {Q : Exit → Act → World → Prop}

theorem getD_flag {L : Array Bool} {j : Nat} (h : L.getD j true = false) : j < L.size ∧ L[j]? = some false := by
  by_cases hj : j < L.size
  · refine ⟨hj, ?_⟩
    simp [Array.getD, hj] at h
    simp [hj, h]
  · simp [Array.getD, hj] at h

theorem wpAny_inv (I : Array Bool → Act → World → Prop)
    (hstep : ∀ (L : Array Bool) (a : Act) (w : World) (i : Nat), L.size = ops.size → I L a w → i ∈ Region.ready .any ops L → wpOp P ops Q i (fun a' w' => I (L.setIfInBounds i true) a' w') a w)
    (hend : ∀ L a w, L.size = ops.size → I L a w → Region.ready .any ops L = [] → Q .normal a w) :
    ∀ (fuel : Nat) (L : Array Bool) (a : Act) (w : World), L.size = ops.size → L.toList.countP (! ·) ≤ fuel → I L a w → wpAny P .any ops Q fuel L a w
  | 0, L, a, w, hs, hc, h => by
    have h0 : Region.ready .any ops L = [] := by
      rw [List.eq_nil_iff_forall_not_mem]
      intro j hj
      obtain ⟨hlt, he⟩ := getD_flag (mem_ready.1 hj).1
      have hm : false ∈ L.toList := by
        rw [List.mem_iff_getElem?]; exact ⟨j, by simpa using he⟩
      have : 0 < L.toList.countP (! ·) := List.countP_pos_iff.2 ⟨false, hm, rfl⟩
      omega
    exact ⟨h0, hend L a w hs h h0⟩
  | fuel + 1, L, a, w, hs, hc, h => ⟨fun h0 => hend L a w hs h h0, fun i hi => by
      obtain ⟨hlt, he⟩ := getD_flag (mem_ready.1 hi).1
      refine wpOp_mono (fun a' w' h' => wpAny_inv I hstep hend fuel _ a' w' (by simpa using hs) ?_ h') (hstep L a w i hs h hi)
      rw [Array.toList_setIfInBounds, List.countP_set (by simpa using hlt)]
      have e2 : L.toList[i]'(by simpa using hlt) = false := by
        have := (Array.getElem?_eq_some_iff.1 he).2
        simpa using this
      have hm : false ∈ L.toList := by
        rw [List.mem_iff_getElem?]; exact ⟨i, by simpa using he⟩
      have : 0 < L.toList.countP (! ·) := List.countP_pos_iff.2 ⟨false, hm, rfl⟩
      rw [e2]
      simp only [Bool.not_false, if_true, Bool.not_true, Bool.false_eq_true, if_false]
      omega⟩

theorem all_listed (hdag : ∀ (i : Nat) (o : Oper), ops[i]? = some o → ∀ e ∈ o.after, Region.binds .any e = true → e.on < i) {L : Array Bool} (hs : L.size = ops.size) (h : Region.ready .any ops L = []) : ∀ i, i < ops.size → L.getD i false = true := by
  intro i
  induction i using Nat.strongRecOn with
  | ind i ih =>
    intro hi
    by_cases hL : L.getD i true = false
    · exfalso
      have : i ∈ Region.ready .any ops L := by
        refine mem_ready.2 ⟨hL, ops[i], by simp [hi], fun e he hbd => ?_⟩
        have := hdag i ops[i] (by simp [hi]) e he hbd
        exact ih e.on this (by omega)
      rw [h] at this; cases this
    · have hi' : i < L.size := by omega
      simp [Array.getD, hi'] at hL ⊢
      exact hL

/-- A region that draws its order, by an invariant of what has come up. -/
theorem wp_region_inv {id : Nat} {a : Act} {w : World} (hm : P.follows .mixedOrders = true) (hdag : ∀ (i : Nat) (o : Oper), ops[i]? = some o → ∀ e ∈ o.after, Region.binds .any e = true → e.on < i)
    (I : (Nat → Bool) → Act → World → Prop) (h0 : I (fun _ => false) a { w with drawn := w.drawn + 1 })
    (hstep : ∀ (L : Nat → Bool) (a : Act) (w : World) (i : Nat) (o : Oper), I L a w → L i = false → ops[i]? = some o → (∀ e ∈ o.after, Region.binds .any e = true → L e.on = true) →
      wpOp P ops Q i (fun a' w' => I (fun j => if j = i then true else L j) a' w') a w)
    (hend : ∀ L a w, (∀ i, i < ops.size → L i = true) → I L a w → Q .normal a w) : (Code.region id ops true).wp P Q a w := by
  refine wp_region_any hm (wpAny_inv (fun L a w => I (fun j => L.getD j false) a w) ?_ ?_ _ _ _ _ (by simp) ?_ ?_)
  · intro L a w i hs h hi
    obtain ⟨hl, o, ho, ha⟩ := mem_ready.1 hi
    obtain ⟨hlt, he⟩ := getD_flag hl
    have e : (fun j => (L.setIfInBounds i true).getD j false) = fun j => if j = i then true else L.getD j false := by
      funext j
      by_cases hj : j = i
      · subst hj; simp [Array.getD, hlt]
      · by_cases hjl : j < L.size
        · simp [Array.getD, hjl, hj, Ne.symm hj]
        · simp [Array.getD, hjl, hj]
    simp only [e]
    refine hstep _ a w i o h ?_ ho ha
    simp [Array.getD, hlt] at hl ⊢; exact hl
  · intro L a w hs h hr
    exact hend _ a w (fun i hi => all_listed hdag hs hr i hi) h
  · simp [List.countP_replicate]
  · have e : (fun j => (Array.replicate ops.size false).getD j false) = fun _ => false := by
      funext j
      by_cases hj : j < ops.size
      · simp [Array.getD, hj]
      · simp [Array.getD, hj]
    simp only [e]; exact h0

/-- What stands while a region's operations come up: the class of worlds, the frame's other slots, and of each value that is there a fact. -/
structure Facts (ops : Array Oper) (a0 : Act) (C : World → Prop) (F : Nat → (Nat → Bool) → Value → World → Prop) (L : Nat → Bool) (a : Act) (w : World) : Prop where
  cls : C w
  size : a.tmps.size = a0.tmps.size
  defers : a.defers = a0.defers
  old : ∀ s, (∀ (i : Nat) (o : Oper), ops[i]? = some o → o.dst ≠ some s) → a.tmps.getD s undef = a0.tmps.getD s undef
  fact : ∀ (i : Nat) (o : Oper) d, ops[i]? = some o → o.dst = some d → L i = true → F i L (a.tmps.getD d undef) w

theorem getD_put_same (a : Act) (d : Nat) (v : Value) (h : d < a.tmps.size) : (a.put (some d) v).tmps.getD d undef = v := by
  simp [Act.put, Array.getD, h]
theorem getD_put_other (a : Act) (d s : Nat) (v : Value) (h : d ≠ s) : (a.put (some d) v).tmps.getD s undef = a.tmps.getD s undef := by
  by_cases hs : s < a.tmps.size
  · simp [Act.put, Array.getD, hs, h]
  · simp [Act.put, Array.getD, hs]
theorem size_put (a : Act) (d : Option Tmp) (v : Value) : (a.put d v).tmps.size = a.tmps.size := by
  cases d <;> simp [Act.put]

/-- A region that draws its order, each of whose operations is wanted and leaves a value with its fact. -/
theorem wp_region_facts {id : Nat} {a0 : Act} {w0 : World} (hm : P.follows .mixedOrders = true) (hdag : ∀ (i : Nat) (o : Oper), ops[i]? = some o → ∀ e ∈ o.after, e.on < i)
    (hdst : ∀ (i : Nat) (o : Oper), ops[i]? = some o → ∃ d, o.dst = some d ∧ d < a0.tmps.size) (hinj : ∀ (i j : Nat) (o o' : Oper), ops[i]? = some o → ops[j]? = some o' → o.dst = o'.dst → i = j)
    (C : World → Prop) (F : Nat → (Nat → Bool) → Value → World → Prop) (hC : C { w0 with drawn := w0.drawn + 1 })
    (hstep : ∀ (L : Nat → Bool) (a : Act) (w : World) (i : Nat) (o : Oper), Facts ops a0 C F L a w → L i = false → ops[i]? = some o → (∀ e ∈ o.after, Region.binds .any e = true → L e.on = true) →
      Region.wanted o (yielded ops a.tmps) = true ∧
      o.wp P a w (fun a' w' => ∃ v, a' = a.put o.dst v ∧ C w' ∧ F i (fun j => if j = i then true else L j) v w' ∧ ∀ j u, L j = true → F j L u w → F j (fun j => if j = i then true else L j) u w') Q)
    (hend : ∀ L a w, (∀ i, i < ops.size → L i = true) → Facts ops a0 C F L a w → Q .normal a w) : (Code.region id ops true).wp P Q a0 w0 := by
  refine wp_region_inv hm (fun i o ho e he _ => hdag i o ho e he) (Facts ops a0 C F) ⟨hC, rfl, rfl, fun _ _ => rfl, fun _ _ _ _ _ h => by cases h⟩ ?_ hend
  intro L a w i o hF hL ho hd
  obtain ⟨hw, hwp⟩ := hstep L a w i o hF hL ho hd
  obtain ⟨d, hod, hds⟩ := hdst i o ho
  unfold wpOp
  simp only [ho, hw, if_true]
  refine .inl (Oper.wp_mono (fun a' w' ⟨v, e, hc, hf, hk⟩ => ?_) hwp)
  subst e
  refine ⟨hc, by rw [size_put]; exact hF.size, by rw [hod]; exact hF.defers, fun s hs => ?_, fun j oj dj hj hjd hLj => ?_⟩
  · rw [hod, getD_put_other _ _ _ _ (fun e => hs i o ho (by rw [hod, e]))]; exact hF.old s hs
  · by_cases hji : j = i
    · subst hji
      obtain rfl : o = oj := Option.some.inj (ho.symm.trans hj)
      obtain rfl : d = dj := Option.some.inj (hod.symm.trans hjd)
      rw [hod, getD_put_same _ _ _ (by rw [hF.size]; exact hds)]; exact hf
    · have hne : d ≠ dj := fun e => hji (hinj j i oj o hj ho (by rw [hod, hjd, e]))
      rw [hod, getD_put_other _ _ _ _ hne]
      have hLj' : L j = true := by simpa [hji] using hLj
      exact hk j _ hLj' (hF.fact j oj dj hj hjd hLj')

/-- Each operation waits for earlier ones alone, has a slot among the frame's, and no other has that slot. -/
def plainB (ops : Array Oper) (n : Nat) : Bool :=
  (List.range ops.size).all fun i => match ops[i]? with
    | none => true
    | some o => o.after.toList.all (fun e => decide (e.on < i)) && (match o.dst with | none => false | some d => decide (d < n)) &&
      (List.range ops.size).all fun j => i == j || (match ops[j]? with | none => true | some o' => o.dst != o'.dst)
theorem plainB_spec {n : Nat} (h : plainB ops n = true) (i : Nat) (o : Oper) (ho : ops[i]? = some o) :
    (∀ e ∈ o.after, e.on < i) ∧ (∃ d, o.dst = some d ∧ d < n) ∧ ∀ (j : Nat) (o' : Oper), ops[j]? = some o' → o.dst = o'.dst → i = j := by
  have hi : i < ops.size := (Array.getElem?_eq_some_iff.1 ho).1
  unfold plainB at h
  rw [List.all_eq_true] at h
  have h1 := h i (List.mem_range.2 hi)
  rw [ho] at h1
  simp only [Bool.and_eq_true] at h1
  obtain ⟨⟨h2, h3⟩, h4⟩ := h1
  refine ⟨fun e he => ?_, ?_, fun j o' hj e => ?_⟩
  · rw [List.all_eq_true] at h2
    simpa using h2 e (by simpa using he)
  · cases hd : o.dst with
    | none => simp [hd] at h3
    | some d => exact ⟨d, rfl, by simpa [hd] using h3⟩
  · rw [List.all_eq_true] at h4
    have h5 := h4 j (List.mem_range.2 (Array.getElem?_eq_some_iff.1 hj).1)
    rw [hj] at h5
    simpa [e] using h5
theorem wanted_free {o : Oper} {f : Nat → Option Bool} (h : o.guard = none) : Region.wanted o f = true := by simp [Region.wanted, h]
theorem wanted_true {o og : Oper} {a : Act} {g d : Nat} (h : o.guard = some (g, true)) (hg : ops[g]? = some og) (hd : og.dst = some d) (hv : a.tmps.getD d undef = .bool true) : Region.wanted o (yielded ops a.tmps) = true := by
  have h1 : a.tmps[d]? = some (.bool true) := by
    by_cases hs : d < a.tmps.size
    · simp [Array.getD, hs] at hv; simp [hs, hv]
    · simp [Array.getD, hs, undef] at hv
  simp [Region.wanted, h, yielded, hg, hd, h1]
end

/-- What stands while a region's operations come up, where facts outlive whatever makes memory. -/
theorem wp_region_stable {P : Program} {ops : Array Oper} {Q : Exit → Act → World → Prop} {id : Nat} {a0 : Act} {w0 : World} (n : Nat) (hm : P.follows .mixedOrders = true) (hp : plainB ops n = true) (hn : a0.tmps.size = n)
    (F : Nat → Value → World → Prop) (hF : ∀ i v w w', Below w.heap.size w w' → F i v w → F i v w')
    (hstep : ∀ (L : Nat → Bool) (a : Act) (w : World) (i : Nat) (o : Oper), Facts ops a0 (Below w0.heap.size w0) (fun i _ v w => F i v w) L a w → ops[i]? = some o → (∀ e ∈ o.after, Region.binds .any e = true → L e.on = true) →
      Region.wanted o (yielded ops a.tmps) = true ∧ ∀ K : Act → World → Prop, (∀ v w', Below w.heap.size w w' → F i v w' → K (a.put o.dst v) w') → o.wp P a w K Q)
    (hend : ∀ L a w, (∀ i, i < ops.size → L i = true) → Facts ops a0 (Below w0.heap.size w0) (fun i _ v w => F i v w) L a w → Q .normal a w) : (Code.region id ops true).wp P Q a0 w0 := by
  subst hn
  refine wp_region_facts hm (fun i o ho => (plainB_spec hp i o ho).1) (fun i o ho => (plainB_spec hp i o ho).2.1) (fun i j o o' ho ho' e => (plainB_spec hp i o ho).2.2 j o' ho' e) _ _ ((Below.refl _ _).drew) ?_ hend
  intro L a w i o hf _ ho hd
  obtain ⟨h1, h2⟩ := hstep L a w i o hf ho hd
  exact ⟨h1, h2 _ fun v w' hB hv => ⟨v, rfl, hf.cls.trans (hB.mono hf.cls.size), hv, fun j u _ hu => hF j u w w' hB hu⟩⟩
theorem dep {after : Array Edge} {L : Nat → Bool} (hd : ∀ e ∈ after, Region.binds .any e = true → L e.on = true) (k : Nat) (h : (after.toList.any fun e => e.on == k && Region.binds .any e) = true) : L k = true := by
  obtain ⟨e, he, h1⟩ := List.any_eq_true.1 h
  simp only [Bool.and_eq_true, beq_iff_eq] at h1
  rw [← h1.1]; exact hd e (by simpa using he) h1.2
theorem slot {ops : Array Oper} {a0 : Act} {C : World → Prop} {F : Nat → (Nat → Bool) → Value → World → Prop} {L : Nat → Bool} {a : Act} {w : World} (h : Facts ops a0 C F L a w) (s : Nat) (hB : (ops.toList.all fun o => o.dst != some s) = true) : a.tmps.getD s undef = a0.tmps.getD s undef := by
  refine h.old s fun i o ho e => ?_
  have := List.all_eq_true.1 hB o (by rw [List.mem_iff_getElem?]; exact ⟨i, by simpa using ho⟩)
  simp [e] at this
theorem wp_load_own {P : Program} {op : Oper} {a : Act} {w : World} {K : Act → World → Prop} {Q : Exit → Act → World → Prop} (ty : TypeId) (x : Operand) (ho : op.op = .load ty x)
    (b : Nat) (hx : a.eval x = .pointer (some ⟨b, 0, none⟩)) (A : Array Value) (d : TypeDesc) (t : TypeId) (hc : Own w b A t)
    (hu : P.underlying ty = some d) (hd : d.isRow = true) (hi : (P.info? ty).map (·.size) = some A.size) (h : K (a.put op.dst (.agg A)) w) : op.wp P a w K Q := by
  unfold Oper.wp execOp
  have := run_loadVar_mid w b 0 ty A.toList d hc.range hu hd (by simpa using hi)
  simp only [ho, hx, Instr.loadAt, Instr.sureAddr, Sem.run_bind, Sem.run_pure, Result.andThen_ok, this, Oper.upon]
  exact h
theorem wp_slice_cut {P : Program} {op : Oper} {a : Act} {w : World} {K : Act → World → Prop} {Q : Exit → Act → World → Prop} (t : TypeId) (x lo hi : Operand) (ho : op.op = .slice t x (some lo) (some hi) none)
    (e : TypeId) (hu : P.underlying t = some (.slice e)) (hi1 : (P.info? e).map (·.size) = some 1) (A : Option Addr) (len cap l h : Nat) (hx : a.eval x = .slice A len cap) (hlo : a.eval lo = .int .i64 (l : Int)) (hhi : a.eval hi = .int .i64 (h : Int)) (h1 : l ≤ h) (h2 : h ≤ cap)
    (hK : K (a.put op.dst (.slice (cutAddr A cap l) (h - l) (cap - l))) w) : op.wp P a w K Q := by
  unfold Oper.wp
  simp only [execOp, ho, hx, hlo, hhi, Option.map_some, Option.map_none, run_slice_cut w t e hu hi1 A len cap l h h1 h2, Sem.run_bind, Result.andThen_ok]
  exact hK
theorem wp_slice_from {P : Program} {op : Oper} {a : Act} {w : World} {K : Act → World → Prop} {Q : Exit → Act → World → Prop} (t : TypeId) (x lo : Operand) (ho : op.op = .slice t x (some lo) none none)
    (e : TypeId) (hu : P.underlying t = some (.slice e)) (hi1 : (P.info? e).map (·.size) = some 1) (A : Option Addr) (len cap l : Nat) (hx : a.eval x = .slice A len cap) (hlo : a.eval lo = .int .i64 (l : Int)) (h1 : l ≤ len)
    (hK : K (a.put op.dst (.slice (cutAddr A cap l) (len - l) (cap - l))) w) : op.wp P a w K Q := by
  unfold Oper.wp
  simp only [execOp, ho, hx, hlo, Option.map_some, Option.map_none, run_slice_from w t e hu hi1 A len cap l h1, Sem.run_bind, Result.andThen_ok]
  exact hK
end Go.Proofs.YtofoihebhdpjlaaDoor
