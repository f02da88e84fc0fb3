/- A region whose last operation waits for all others: the table for these, then the walk goes on with the last. -/
import Derived.Test.YtaabcllghniaoaaDoorRG
namespace Go.Proofs.YtaabcllghniaoaaDoor
open Go Go.RowKit
section
variable {P : Program} {ops : Array Oper} {Q : Exit → Act → World → Prop} {a0 : Act} {l : (Nat → Bool) → Kl} {w0 : World} {T : List Lv}
def waitsAll (ops : Array Oper) (m : Nat) : Bool := ops.size == m + 1 && (List.range m).all fun i => waitsB ops m i
theorem waitsAll_spec {m : Nat} (h : waitsAll ops m = true) : ops.size = m + 1 ∧ ∀ i, i < m → ∃ o, ops[m]? = some o ∧ ∃ e ∈ o.after, e.on = i ∧ Region.binds .any e = true := by
  unfold waitsAll at h
  simp only [Bool.and_eq_true, beq_iff_eq] at h
  refine ⟨h.1, fun i hi => ?_⟩
  have h1 := List.all_eq_true.1 h.2 i (List.mem_range.2 hi)
  unfold waitsB at h1
  cases ho : ops[m]? with
  | none => rw [ho] at h1; cases h1
  | some o =>
    rw [ho] at h1
    obtain ⟨e, he, h2⟩ := List.any_eq_true.1 (show (o.after.toList.any fun e => e.on == i && Region.binds .any e) = true from h1)
    simp only [Bool.and_eq_true, beq_iff_eq] at h2
    exact ⟨o, rfl, e, by simpa using he, h2.1, h2.2⟩
theorem putAll_none (vs : Nat → Value) (o : Oper) (hd : o.dst = none) : ∀ (r : List Oper) (i : Nat) (a : Act), putAll vs i (r ++ [o]) a = putAll vs i r a
  | [], i, a => by simp [putAll, hd, Act.put]
  | x :: r, i, a => by
    rw [List.cons_append, putAll, putAll]
    exact putAll_none vs o hd r _ _
theorem putAll_congr {vs us : Nat → Value} : ∀ (r : List Oper) (i : Nat) (a : Act), (∀ j, j < r.length → vs (i + j) = us (i + j)) → putAll vs i r a = putAll us i r a
  | [], _, _, _ => rfl
  | x :: r, i, a, h => by
    rw [putAll, putAll, show vs i = us i from h 0 (by simp)]
    exact putAll_congr r _ _ fun j hj => by
      have := h (j + 1) (by simp; omega)
      rwa [show i + (j + 1) = i + 1 + j by omega] at this
/-- A store leaves the slots as they are. -/
theorem store_wp {o : Oper} {ty : TypeId} {x y : Operand} (ho : o.op = .store ty x y) {a : Act} {w : World} {K K' : Act → World → Prop} (h : o.wp P a w K Q) (hK : ∀ w', K (a.put o.dst undef) w' → K' (a.put o.dst undef) w') : o.wp P a w K' Q := by
  unfold Oper.wp execOp at *
  simp only [ho, Sem.run_bind] at *
  generalize (_ : Sem _).run P w = r at *
  cases r with
  | ok v w' => exact hK w' h
  | halt x w' => cases x <;> exact h
def storeB (ops : Array Oper) (m : Nat) : Bool := match ops[m]? with
  | some o => o.dst.isNone && match o.op with
    | .store _ _ _ => true
    | _ => false
  | none => false
theorem wp_lv_to {G : Prop} {w : World} (n m : Nat) (l : (Nat → Bool) → Kl) (T : List Lv) (hk : Kp (l fun _ => false) w0 w) (hr : Runs P ops Q a0 w G) (hp : plainC ops n = true) (hq : seesC ops = true) (hn : a0.tmps.size = n) (hw : waitsAll ops m = true) (hst : storeB ops m = true)
    (hs : AllGo (Go1 P ops a0 l w0 T) 0 (ops.toList.take m))
    (hend : ∀ vs w', RJ l w0 T (fun i => decide (i < m)) vs w' → (∀ (k : Nat) (o : Oper) d, k < m → ops[k]? = some o → o.dst = some d → (lvAt T k).F (vs k)) → wpList P ops Q (ops.toList.drop m) (putL vs 0 T (ops.toList.take m) a0) w') : G := by
  obtain ⟨hsz, hall⟩ := waitsAll_spec hw
  obtain ⟨om, hom⟩ : ∃ o, ops[m]? = some o := ⟨ops[m], by simp [hsz]⟩
  obtain ⟨hdn, ty, sx, sy, hop⟩ : om.dst = none ∧ ∃ ty x y, om.op = .store ty x y := by
    unfold storeB at hst
    rw [hom] at hst
    simp only [Bool.and_eq_true, Option.isNone_iff_eq_none] at hst
    refine ⟨hst.1, ?_⟩
    have h2 := hst.2
    cases ho : om.op with
    | store ty x y => exact ⟨ty, x, y, rfl⟩
    | _ => rw [ho] at h2; cases h2
  have hsp : ops.toList = ops.toList.take m ++ [om] := by
    have h1 : ops.toList.drop m = [om] := by
      have hlt : m < ops.toList.length := by simp [hsz]
      rw [List.drop_eq_getElem_cons hlt]
      have e : ops.toList[m] = om := by
        have := Array.getElem?_toList (xs := ops) (i := m)
        rw [hom, List.getElem?_eq_getElem hlt] at this
        exact Option.some.inj this
      rw [e, List.drop_of_length_le (by simp [hsz])]
    rw [← h1, List.take_append_drop]
  have hdrop : ops.toList.drop m = [om] := by
    have hlt : m < ops.toList.length := by simp [hsz]
    rw [hsp, List.drop_left' (by rw [List.length_take]; omega)]
  rw [hdrop] at hend
  have hfull : ∀ {J : (Nat → Bool) → (Nat → Value) → World → Prop} {L : Nat → Bool} {vs : Nat → Value} {a : Act} {w : World}, Told ops a0 (fun i v => (lvAt T i).F v) J L vs a w → L m = true → ∀ i, i < m → L i = true := fun hF hLm i hi => by
    obtain ⟨o, ho, e, he, hei, hb⟩ := hall i hi
    have := hF.closed m o ho hLm e he hb
    rwa [hei] at this
  refine wp_told_of n hp hn hr (fun i v => (lvAt T i).F v) (fun L vs w => (∀ i, ops.size ≤ i → L i = false) ∧ ((L m = false ∧ RJ l w0 T L vs w) ∨ (L m = true ∧ Q .normal (putAll vs 0 ops.toList a0) w))) (fun vs => ⟨fun _ _ => rfl, .inl ⟨rfl, ⟨hk, fun _ _ h => by (cases live_on h), fun _ _ _ _ _ h => by (cases live_on h), fun _ _ _ _ _ _ h => by (cases h), fun _ _ _ _ h => by (cases h), fun _ _ _ h => by (cases h), fun _ _ _ _ h => by (cases live_on h), fun _ _ _ _ h => by (cases h)⟩⟩⟩) ?_ ?_
  · intro L vs a w i o hF hLi ho hd K hK
    have hi : i < ops.size := (Array.getElem?_eq_some_iff.1 ho).1
    obtain ⟨hbey, ⟨hLm, hJ⟩ | ⟨hLm, -⟩⟩ := hF.j
    · by_cases him : i = m
      · subst him
        obtain rfl : om = o := Option.some.inj (hom.symm.trans ho)
        have hallL : ∀ k, k < i → L k = true := fun k hk => by
          obtain ⟨o', ho', e, he, hei, hb⟩ := hall k hk
          obtain rfl : om = o' := Option.some.inj (hom.symm.trans ho')
          have := hd e he hb
          rwa [hei] at this
        have eL : L = fun k => decide (k < i) := by
          funext k
          rcases Nat.lt_trichotomy k i with h | h | h
          · rw [hallL k h, decide_eq_true h]
          · subst h; rw [hLm, decide_eq_false (by omega)]
          · rw [hbey k (by omega), decide_eq_false (by omega)]
        have ea : a = putAll vs 0 (ops.toList.take i) a0 := by
          refine act_ext (by rw [putAll_size]; exact hF.size) (by rw [putAll_defers]; exact hF.defers) fun s hs => ?_
          by_cases h : ∃ (k : Nat) (o : Oper), k < i ∧ ops[k]? = some o ∧ o.dst = some s
          · obtain ⟨k, o', hki, ho', hd'⟩ := h
            rw [(hF.fact k o' s ho' hd' (hallL k hki)).1]
            have := putAll_at vs s (ops.toList.take i) 0 a0 k o' (by rw [← hF.size]; exact hs) (by rw [List.getElem?_take, if_pos hki]; simpa using ho') hd' (fun k' o2 hk' he => ((plainC_spec hp k o' ho').2.2 k' o2 s (by
              rw [List.getElem?_take] at hk'
              split at hk'
              · simpa using hk'
              · cases hk') hd' he).symm)
            rw [this, Nat.zero_add]
          · rw [putAll_other vs s _ _ _ (fun o' ho' e => h (by
              obtain ⟨k, hk⟩ := List.mem_iff_getElem?.1 ho'
              rw [List.getElem?_take] at hk
              split at hk
              · rename_i hki
                exact ⟨k, o', hki, by simpa using hk, e⟩
              · cases hk))]
            refine hF.old s fun k o' ho' hd' => ?_
            by_cases hki : k < i
            · exact absurd ⟨k, o', hki, ho', hd'⟩ h
            · have : k = i := by
                have := (Array.getElem?_eq_some_iff.1 ho').1
                omega
              subst this
              obtain rfl : om = o' := Option.some.inj (hom.symm.trans ho')
              rw [hdn] at hd'
              cases hd'
        have hfacts : ∀ (k : Nat) (o : Oper) d, k < i → ops[k]? = some o → o.dst = some d → (lvAt T k).F (vs k) := fun k o' d hki ho' hd' => (hF.fact k o' d ho' hd' (hallL k hki)).2
        have h1 := hend vs w (eL ▸ hJ) hfacts
        rw [← putL_eq vs (ops.toList.take i) 0 T a0 (fun j o' d hj hd' => by
          rw [Nat.zero_add]
          rw [List.getElem?_take] at hj
          split at hj
          · rename_i hji
            exact hfacts j o' d hji (by simpa using hj) hd'
          · cases hj), ← ea] at h1
        have hput : ∀ (v : Value) (b : Act), b.put om.dst v = b := fun v b => by rw [hdn]; rfl
        have hfin : ∀ w', Q .normal a w' → K a w' := fun w' hQ => by
          have := hK undef w' (.inl hdn) ⟨fun j hj => by
            have hji : j ≠ i := by omega
            simp only [hji, if_false]
            exact hbey j hj, .inr ⟨if_pos rfl, by
              rw [hsp, putAll_none _ om hdn, putAll_congr (us := vs) _ _ _ (fun j hj => by
                have : j < i := by rw [List.length_take] at hj; omega
                have hji : 0 + j ≠ i := by omega
                simp only [hji, if_false]), ← ea]
              exact hQ⟩⟩
          rwa [hput] at this
        unfold wpOp
        rw [hom]
        simp only [wpList] at h1 ⊢
        split
        · rename_i hwt
          rw [if_pos hwt] at h1
          rcases h1 with h1 | h1
          · left
            exact store_wp hop h1 fun w' h => by
              rw [hput] at h ⊢
              exact hfin w' h
          · exact .inr h1
        · rename_i hwt
          rw [if_neg hwt] at h1
          rw [hput] at h1 ⊢
          exact hfin w h1
      · have hg := hs.at i o (by rw [List.getElem?_take, if_pos (by omega)]; simpa using ho)
        rw [Nat.zero_add] at hg
        have hT : Told ops a0 (fun i v => (lvAt T i).F v) (fun L vs w => RJ l w0 T L vs w) L vs a w := ⟨hJ, hF.size, hF.defers, hF.closed, hF.old, hF.fact⟩
        have hsee : ∀ s ∈ o.looksAt ops, a.tmps.getD s undef = envOf ops T vs a0 o.after (.tmp s) := fun s hs => by
          have h1 := List.all_eq_true.1 hq i (List.mem_range.2 hi)
          rw [ho] at h1
          simp only [Bool.and_eq_true] at h1
          have h2 := List.all_eq_true.1 h1.2 s hs
          unfold envOf
          simp only
          cases hdep : depOf ops o.after s with
          | none =>
            rw [hdep] at h2
            simp only [Option.isSome_none, Bool.false_or] at h2
            exact slott hT i hLi s h2
          | some k =>
            unfold depOf at hdep
            rw [Option.map_eq_some_iff] at hdep
            obtain ⟨e, he, hek⟩ := hdep
            have he1 := List.mem_of_find?_eq_some he
            have he2 := List.find?_some he
            simp only [Bool.and_eq_true, beq_iff_eq] at he2
            have hLe := hd e (by simpa using he1) he2.1
            rw [Option.bind_eq_some_iff] at he2
            obtain ⟨hb, ok, hok, hokd⟩ := he2
            rw [hek] at hok hLe
            obtain ⟨h3, h4⟩ := hF.fact k ok s hok hokd hLe
            rw [h3]
            exact (Lv.val_of h4).symm
        refine hg Q L vs w a K ho ⟨hJ, hLi, hd, hF.closed, fun k ok d hk hkd hL => (hF.fact k ok d hk hkd hL).2⟩ hsee (fun x hx => ?_) fun v w' hv hJ' => hK v w' hv ⟨fun j hj => ?_, .inl ⟨?_, hJ'⟩⟩
        · cases x with
          | tmp s => exact absurd rfl (hx s)
          | _ => rfl
        · have hji : j ≠ i := by omega
          simp only [hji, if_false]
          exact hbey j hj
        · have hmi : m ≠ i := fun e => him e.symm
          simp only [hmi, if_false]
          exact hLm
    · have := hfull hF hLm i
      by_cases him : i = m
      · subst him; rw [hLm] at hLi; cases hLi
      · have h3 := this (by omega); rw [hLi] at h3; cases h3
  · intro L vs w' hL hJ hf
    obtain ⟨-, ⟨hLm, -⟩ | ⟨-, hQ⟩⟩ := hJ
    · rw [hL m (by omega)] at hLm; cases hLm
    · exact hQ
/-- A call that answers something of its own, until another operation takes it. -/
theorem Go1.cd {i : Nat} {d : Option Tmp} {τ : TypeId} {p : String} {af : Array Edge} {g : Option (Nat × Bool)} {f : FuncId} {xs : Array Operand} {ats : Array TypeId} {R : Rel} (z : Nat) (args : (Nat → Value) → Array Value) (h : ∀ L vs w, At ops l w0 T i ⟨d, .call ⟨.value (.func f), xs, ats⟩, τ, p, af, g⟩ L vs w → Calls P f (args vs) w fun e w' => ∃ v, e = .returned v ∧ R.r w' v ∧ (∀ g ∈ blks v, w.heap.size ≤ g ∧ g < w'.heap.size) ∧ Below w.heap.size w w')
    (hfn : isFnB P f = true := by kernel_rfl) (hx : ∀ vs, (#[] ++ xs.map (envOf ops T vs a0 af) ++ #[]) = args vs := by intro _; kernel_rfl)
    (ht : lvAt T i = .od R z := by rfl) (hw : wantC ops T ⟨d, .call ⟨.value (.func f), xs, ats⟩, τ, p, af, g⟩ = some true := by rfl) (hf : Lv.free T i = true := by rfl) (hl : ∀ L, l (lset L i true) = l L := by intro _; rfl) : Go1 P ops a0 l w0 T i ⟨d, .call ⟨.value (.func f), xs, ats⟩, τ, p, af, g⟩ :=
  Go1.nw (R' := R) (fun L vs w a hA he => by
    have e1 : xs.map a.eval = xs.map (envOf ops T vs a0 af) := Array.map_congr_left fun x hm => he x (by simp [Op.operands, Call.operands, hm])
    unfold OpV
    rw [execOp_call_go, e1, hx vs, run_fn hfn]
    simp only
    refine (h L vs w hA).mono ?_
    rintro e w' ⟨v, rfl, h1, h2, h3⟩
    exact ⟨h1, h2, h3⟩) (.inr ⟨z, ht⟩) hw hf hl
theorem wp_region_lt {id : Nat} {w : World} (n m : Nat) (l : (Nat → Bool) → Kl) (T : List Lv) (hk : Kp (l fun _ => false) w0 w) (hm : P.follows .mixedOrders = true) (hp : plainC ops n = true) (hq : seesC ops = true) (hn : a0.tmps.size = n) (hw : waitsAll ops m = true) (hst : storeB ops m = true)
    (hs : AllGo (Go1 P ops a0 l w0 T) 0 (ops.toList.take m))
    (hend : ∀ vs w', RJ l w0 T (fun i => decide (i < m)) vs w' → (∀ (k : Nat) (o : Oper) d, k < m → ops[k]? = some o → o.dst = some d → (lvAt T k).F (vs k)) → wpList P ops Q (ops.toList.drop m) (putL vs 0 T (ops.toList.take m) a0) w') : (Code.region id ops true).wp P Q a0 w := wp_lv_to n m l T hk.drew (runs_draw hm) hp hq hn hw hst hs hend
end
end Go.Proofs.YtaabcllghniaoaaDoor
