/- A region whose operations that write memory come up one behind the other: what memory holds behind each of them, in the words of the proof. -/
import Derived.Test.YtaabcllghniaoaaDoorRL
namespace Go.Proofs.YtaabcllghniaoaaDoor
open Go Go.RowKit
section
variable {P : Program} {ops : Array Oper} {a0 : Act} {T : List Lv} {ch : List Nat} {C : Nat → (Nat → Value) → World → Prop}
/-- What is known while the operations come up: so many of the writing ones are done. -/
structure CJ (T : List Lv) (ch : List Nat) (C : Nat → (Nat → Value) → World → Prop) (L : Nat → Bool) (vs : Nat → Value) (w : World) : Prop where
  st : ∃ c, c ≤ ch.length ∧ (∀ j i, ch[j]? = some i → L i = decide (j < c)) ∧ C c vs w
  al : ∀ i k g, lvAt T i = .fn k g → L i = true → L k = true ∧ vs i = g (vs k)
/-- What is known as an operation comes up. -/
structure CAt (ops : Array Oper) (T : List Lv) (ch : List Nat) (C : Nat → (Nat → Value) → World → Prop) (i : Nat) (o : Oper) (L : Nat → Bool) (vs : Nat → Value) (w : World) : Prop where
  j : CJ T ch C L vs w
  new : L i = false
  dep : ∀ e ∈ o.after, Region.binds .any e = true → L e.on = true
  closed : ∀ (k : Nat) (ok : Oper), ops[k]? = some ok → L k = true → ∀ e ∈ ok.after, Region.binds .any e = true → L e.on = true
/-- One operation's step. -/
def Go2 (P : Program) (ops : Array Oper) (a0 : Act) (T : List Lv) (ch : List Nat) (C : Nat → (Nat → Value) → World → Prop) (i : Nat) (o : Oper) : Prop :=
  ∀ Q L vs w a K, ops[i]? = some o → CAt ops T ch C i o L vs w → (∀ s ∈ o.looksAt ops, a.tmps.getD s undef = envOf ops T vs a0 o.after (.tmp s)) → (∀ x, (∀ s, x ≠ .tmp s) → a.eval x = a0.eval x) →
    (∀ v w', (o.dst = none ∨ (lvAt T i).F v) → CJ T ch C (lset L i true) (lset vs i v) w' → K (a.put o.dst v) w') → wpOp P ops Q i K a w
def chainB (ops : Array Oper) (ch : List Nat) : Bool := decide ch.Nodup && ch.all (fun i => decide (i < ops.size))
theorem wp_ch_of {Q : Exit → Act → World → Prop} {G : Prop} {w : World} (n : Nat) (T : List Lv) (ch : List Nat) (C : Nat → (Nat → Value) → World → Prop) (h0 : ∀ vs, C 0 vs w) (hr : Runs P ops Q a0 w G) (hp : plainC ops n = true) (hq : seesC ops = true) (hn : a0.tmps.size = n) (hch : chainB ops ch = true)
    (hs : AllGo (Go2 P ops a0 T ch C) 0 ops.toList)
    (hend : ∀ vs w', C ch.length vs w' → (∀ i k g, i < ops.size → lvAt T i = .fn k g → vs i = g (vs k)) → (∀ (k : Nat) (o : Oper) d, ops[k]? = some o → o.dst = some d → (lvAt T k).F (vs k)) → Q .normal (putL vs 0 T ops.toList a0) w') : G := by
  refine wp_told_of n hp hn hr (fun i v => (lvAt T i).F v) (fun L vs w => CJ T ch C L vs w) (fun vs => ⟨⟨0, Nat.zero_le _, fun j i _ => rfl, h0 vs⟩, fun _ _ _ _ h => by cases h⟩) ?_ ?_
  · intro L vs a w i o hF hLi ho hd K hK
    have hi : i < ops.size := (Array.getElem?_eq_some_iff.1 ho).1
    have hg := hs.at i o (by simpa using ho)
    rw [Nat.zero_add] at hg
    have hsee : ∀ s ∈ o.looksAt ops, a.tmps.getD s undef = envOf ops T vs a0 o.after (.tmp s) := fun s hs => by
      have h1 := List.all_eq_true.1 hq i (List.mem_range.2 hi)
      rw [ho] at h1
      simp only [Bool.and_eq_true] at h1
      have h2 := List.all_eq_true.1 h1.2 s hs
      unfold envOf
      simp only
      cases hdep : depOf ops o.after s with
      | none =>
        rw [hdep] at h2
        simp only [Option.isSome_none, Bool.false_or] at h2
        exact slott hF i hLi s h2
      | some k =>
        unfold depOf at hdep
        rw [Option.map_eq_some_iff] at hdep
        obtain ⟨e, he, hek⟩ := hdep
        have he1 := List.mem_of_find?_eq_some he
        have he2 := List.find?_some he
        simp only [Bool.and_eq_true, beq_iff_eq] at he2
        have hLe := hd e (by simpa using he1) he2.1
        rw [Option.bind_eq_some_iff] at he2
        obtain ⟨hb, ok, hok, hokd⟩ := he2
        rw [hek] at hok hLe
        obtain ⟨h3, h4⟩ := hF.fact k ok s hok hokd hLe
        rw [h3]
        exact (Lv.val_of h4).symm
    refine hg Q L vs w a K ho ⟨hF.j, hLi, hd, hF.closed⟩ hsee (fun x hx => ?_) fun v w' hv hJ => hK v w' hv hJ
    cases x with
    | tmp s => exact absurd rfl (hx s)
    | _ => rfl
  · intro L vs w' hL hJ hf
    obtain ⟨c, hc, hLc, hC⟩ := hJ.st
    unfold chainB at hch
    simp only [Bool.and_eq_true, List.all_eq_true, decide_eq_true_eq] at hch
    have hce : c = ch.length := by
      rcases Nat.lt_or_ge c ch.length with h | h
      · have h1 := hLc c ch[c] (List.getElem?_eq_getElem h)
        rw [hL _ (hch.2 _ (List.getElem_mem h)), decide_eq_false (Nat.lt_irrefl c)] at h1
        cases h1
      · omega
    subst hce
    rw [putL_eq vs ops.toList 0 T a0 (fun j o d hj hd => by
      rw [Nat.zero_add]
      exact hf j o d (by simpa using hj) hd)]
    exact hend vs w' hC (fun i k g hi hT => (hJ.al i k g hT (hL i hi)).2) hf
theorem wp_region_ch {Q : Exit → Act → World → Prop} {id : Nat} {w : World} (n : Nat) (T : List Lv) (ch : List Nat) (C : Nat → (Nat → Value) → World → Prop) (h0 : ∀ vs, C 0 vs { w with drawn := w.drawn + 1 }) (hm : P.follows .mixedOrders = true) (hp : plainC ops n = true) (hq : seesC ops = true) (hn : a0.tmps.size = n) (hch : chainB ops ch = true)
    (hs : AllGo (Go2 P ops a0 T ch C) 0 ops.toList)
    (hend : ∀ vs w', C ch.length vs w' → (∀ i k g, i < ops.size → lvAt T i = .fn k g → vs i = g (vs k)) → (∀ (k : Nat) (o : Oper) d, ops[k]? = some o → o.dst = some d → (lvAt T k).F (vs k)) → Q .normal (putL vs 0 T ops.toList a0) w') : (Code.region id ops true).wp P Q a0 w := wp_ch_of n T ch C h0 (runs_draw hm) hp hq hn hch hs hend
theorem wp_region_cs {Q : Exit → Act → World → Prop} {id : Nat} {w : World} (n : Nat) (T : List Lv) (ch : List Nat) (C : Nat → (Nat → Value) → World → Prop) (h0 : ∀ vs, C 0 vs w) (hp : plainC ops n = true) (hq : seesC ops = true) (hn : a0.tmps.size = n) (hch : chainB ops ch = true)
    (hs : AllGo (Go2 P ops a0 T ch C) 0 ops.toList)
    (hend : ∀ vs w', C ch.length vs w' → (∀ i k g, i < ops.size → lvAt T i = .fn k g → vs i = g (vs k)) → (∀ (k : Nat) (o : Oper) d, ops[k]? = some o → o.dst = some d → (lvAt T k).F (vs k)) → Q .normal (putL vs 0 T ops.toList a0) w') : (Code.region id ops false).wp P Q a0 w := wp_ch_of n T ch C h0 runs_row hp hq hn hch hs hend
/-- Does what waits so wait for operation m, by way of others too? -/
def reachB (ops : Array Oper) : Nat → Array Edge → Nat → Bool
  | 0, _, _ => false
  | f + 1, af, m => af.toList.any fun e => Region.binds .any e && (e.on == m || match ops[e.on]? with
    | some o => reachB ops f o.after m
    | none => false)
theorem reach_spec {L : Nat → Bool} (hcl : ∀ (k : Nat) (ok : Oper), ops[k]? = some ok → L k = true → ∀ e ∈ ok.after, Region.binds .any e = true → L e.on = true) : ∀ (f : Nat) (af : Array Edge) (m : Nat), (∀ e ∈ af, Region.binds .any e = true → L e.on = true) → reachB ops f af m = true → L m = true
  | 0, _, _, _, h => by cases h
  | f + 1, af, m, hd, h => by
    rw [reachB] at h
    obtain ⟨e, he, h2⟩ := List.any_eq_true.1 h
    simp only [Bool.and_eq_true, Bool.or_eq_true, beq_iff_eq] at h2
    have h3 := hd e (by simpa using he) h2.1
    rcases h2.2 with h4 | h4
    · rw [← h4]; exact h3
    · cases ho : ops[e.on]? with
      | none => rw [ho] at h4; cases h4
      | some o =>
        rw [ho] at h4
        exact reach_spec hcl f o.after m (hcl e.on o ho h3) h4
/-- C does not look at an operation's own value. -/
def Blind (C : Nat → (Nat → Value) → World → Prop) (i : Nat) : Prop := ∀ c vs v w, C c vs w → C c (lset vs i v) w
variable {i : Nat} {d : Option Tmp} {τ : TypeId} {p : String} {af : Array Edge} {g : Option (Nat × Bool)} {o : Oper}
theorem CJ.next {L : Nat → Bool} {vs : Nat → Value} {w : World} {v : Value} (h : CJ T ch C L vs w) (hn : L i = false) (hi : ch.contains i = false) (hb : Blind C i) (hal : ∀ k g, lvAt T i = .fn k g → L k = true ∧ v = g (vs k)) : CJ T ch C (lset L i true) (lset vs i v) w := by
  obtain ⟨c, hc, hL, hC⟩ := h.st
  refine ⟨⟨c, hc, fun j k hk => ?_, hb c vs v w hC⟩, fun k j g hT hLk => ?_⟩
  · have hki : k ≠ i := fun e => by
      subst e
      have := List.contains_iff_mem.2 (List.mem_of_getElem? hk)
      rw [hi] at this
      cases this
    rw [lset_ne hki]
    exact hL j k hk
  · have hLi : ∀ m, L m = true → lset L i true m = true ∧ m ≠ i := fun m hm => by
      have : m ≠ i := fun e => by rw [e, hn] at hm; cases hm
      exact ⟨by rw [lset_ne this]; exact hm, this⟩
    by_cases hki : k = i
    · subst hki
      obtain ⟨h1, h2⟩ := hal j g hT
      obtain ⟨h3, h4⟩ := hLi j h1
      exact ⟨h3, by rw [lset_at, lset_ne h4]; exact h2⟩
    · rw [lset_ne hki] at hLk
      obtain ⟨h1, h2⟩ := h.al k j g hT hLk
      obtain ⟨h3, h4⟩ := hLi j h1
      exact ⟨h3, by rw [lset_ne hki, lset_ne h4]; exact h2⟩
/-- An operation that only reads. -/
theorem Go2.rd (h : ∀ c vs w (a : Act), C c vs w → (∀ x ∈ o.op.operands, a.eval x = envOf ops T vs a0 o.after x) → OpV P o a.eval w fun v w' => (o.dst = none ∨ (lvAt T i).F v) ∧ w' = w) (hnf : ∀ k g, lvAt T i ≠ .fn k g) (hw : wantC ops T o = some true := by rfl) (hi : ch.contains i = false := by rfl) (hb : Blind C i := by intro _ _ _ _ h; exact h) : Go2 P ops a0 T ch C i o :=
  fun Q L vs w a K ho hA hsee hoth hK => by
    have hwt := wantC_spec (vs := vs) (a := a) hw hsee
    have he : ∀ x ∈ o.op.operands, a.eval x = envOf ops T vs a0 o.after x := fun x hx => by
      cases x with
      | tmp s => exact hsee s (by
          unfold Oper.looksAt
          simp only [List.mem_append]
          refine .inl ?_
          exact (List.mem_filterMap.2 ⟨.tmp s, by simpa using hx, rfl⟩))
      | _ => exact hoth _ (fun s e => by cases e)
    obtain ⟨c, -, -, hC⟩ := hA.j.st
    unfold wpOp
    rw [ho]
    simp only
    rw [if_pos hwt]
    refine .inl (OpV.wp ((h c vs w a hC he).mono fun v w' ⟨h1, h2⟩ => ?_))
    subst h2
    exact hK v w' h1 (hA.j.next hA.new hi hb fun k g e => absurd e (hnf k g))
theorem Go2.see {vs : Nat → Value} {w : World} {a : Act} {K : Act → World → Prop} {Q : Exit → Act → World → Prop} (ho : ops[i]? = some o) (hsee : ∀ s ∈ o.looksAt ops, a.tmps.getD s undef = envOf ops T vs a0 o.after (.tmp s)) (hoth : ∀ x, (∀ s, x ≠ .tmp s) → a.eval x = a0.eval x) (hw : wantC ops T o = some true)
    (h : (∀ x ∈ o.op.operands, a.eval x = envOf ops T vs a0 o.after x) → OpV P o a.eval w fun v w' => K (a.put o.dst v) w') : wpOp P ops Q i K a w :=
  step_do ho (wantC_spec hw hsee) (OpV.wp (h fun x hx => by
    cases x with
    | tmp s => exact hsee s (List.mem_append_left _ (List.mem_filterMap.2 ⟨.tmp s, by simpa using hx, rfl⟩))
    | _ => exact hoth _ (fun s e => by cases e)))
def bareB (x : Lv) : Bool := match x with
  | .fn _ _ => false
  | _ => true
theorem bareB_spec {x : Lv} (h : bareB x = true) (k : Nat) (g : Value → Value) : x ≠ .fn k g := fun e => by rw [e] at h; cases h
/-- An operation that is passed by. -/
theorem Go2.ps (hw : wantC ops T o = some false := by rfl) (ht : lvAt T i = .v undef := by rfl) (hi : ch.contains i = false := by rfl) (hb : Blind C i := by intro _ _ _ _ h; exact h) : Go2 P ops a0 T ch C i o :=
  fun Q L vs w a K ho hA hsee hoth hK => step_pass ho (wantC_spec hw hsee) (hK undef w (.inr (by rw [ht]; rfl)) (hA.j.next hA.new hi hb fun k g e => by rw [ht] at e; cases e))
theorem Go2.p0 {op : Op} {v : Value} (ht : lvAt T i = .v v := by rfl)
    (h : ∀ (a : Act) (w : World), (execOp a.eval ⟨d, op, τ, p, af, g⟩).run P w = .ok (.value v) w := by intro a w; first | (go_simp; done) | (go_simp; first | rfl | kernel_rfl))
    (hw : wantC ops T ⟨d, op, τ, p, af, g⟩ = some true := by rfl) (hi : ch.contains i = false := by rfl) (hb : Blind C i := by intro _ _ _ _ h; exact h) : Go2 P ops a0 T ch C i ⟨d, op, τ, p, af, g⟩ :=
  Go2.rd (fun c vs w a _ he => by
    unfold OpV
    rw [h a w]
    exact ⟨.inr (by rw [ht]; rfl), rfl⟩) (bareB_spec (by rw [ht]; rfl)) hw hi hb
theorem Go2.p1 {op : Op} {v : Value} (s : Nat) (u : Value) (ht : lvAt T i = .v v := by rfl) (hv : ∀ vs, envOf ops T vs a0 af (.tmp s) = u := by intro _; kernel_rfl)
    (h : ∀ (a : Act) (w : World), a.tmps.getD s undef = u → (execOp a.eval ⟨d, op, τ, p, af, g⟩).run P w = .ok (.value v) w := by intro a w f; have q := getq f; first | (go_simp; done) | (go_simp; first | rfl | kernel_rfl)) (hop : (slotsIn op).contains s = true := by rfl)
    (hw : wantC ops T ⟨d, op, τ, p, af, g⟩ = some true := by rfl) (hi : ch.contains i = false := by rfl) (hb : Blind C i := by intro _ _ _ _ h; exact h) : Go2 P ops a0 T ch C i ⟨d, op, τ, p, af, g⟩ :=
  Go2.rd (fun c vs w a _ he => by
    unfold OpV
    rw [h a w ((he _ (slotsIn_mem hop)).trans (hv vs))]
    exact ⟨.inr (by rw [ht]; rfl), rfl⟩) (bareB_spec (by rw [ht]; rfl)) hw hi hb
theorem Go2.p2 {op : Op} {v : Value} (s : Nat) (u : Value) (s' : Nat) (u' : Value) (ht : lvAt T i = .v v := by rfl) (hv : ∀ vs, envOf ops T vs a0 af (.tmp s) = u := by intro _; kernel_rfl) (hv' : ∀ vs, envOf ops T vs a0 af (.tmp s') = u' := by intro _; kernel_rfl)
    (h : ∀ (a : Act) (w : World), a.tmps.getD s undef = u → a.tmps.getD s' undef = u' → (execOp a.eval ⟨d, op, τ, p, af, g⟩).run P w = .ok (.value v) w := by intro a w f f'; have q := getq f; have q' := getq f'; first | (go_simp; done) | (go_simp; first | rfl | kernel_rfl)) (hop : (slotsIn op).contains s = true := by rfl) (hop' : (slotsIn op).contains s' = true := by rfl)
    (hw : wantC ops T ⟨d, op, τ, p, af, g⟩ = some true := by rfl) (hi : ch.contains i = false := by rfl) (hb : Blind C i := by intro _ _ _ _ h; exact h) : Go2 P ops a0 T ch C i ⟨d, op, τ, p, af, g⟩ :=
  Go2.rd (fun c vs w a _ he => by
    unfold OpV
    rw [h a w ((he _ (slotsIn_mem hop)).trans (hv vs)) ((he _ (slotsIn_mem hop')).trans (hv' vs))]
    exact ⟨.inr (by rw [ht]; rfl), rfl⟩) (bareB_spec (by rw [ht]; rfl)) hw hi hb
/-- A cell is loaded, that holds the same at every time. -/
theorem Go2.lc {ty : TypeId} {x : Operand} {v : Value} (b o : Nat) (hc : ∀ c vs w, C c vs w → w.cell? ⟨b, o, none⟩ = some v) (hr : ∀ (w : World), w.cell? ⟨b, o, none⟩ = some v → (loadVar ty ⟨b, o, none⟩).run P w = .ok v w)
    (hx : ∀ vs, envOf ops T vs a0 af x = .pointer (some ⟨b, o, none⟩) := by intro _; kernel_rfl) (ht : lvAt T i = .v v := by rfl)
    (hw : wantC ops T ⟨d, .load ty x, τ, p, af, g⟩ = some true := by rfl) (hi : ch.contains i = false := by rfl) (hb : Blind C i := by intro _ _ _ _ h; exact h) : Go2 P ops a0 T ch C i ⟨d, .load ty x, τ, p, af, g⟩ :=
  Go2.rd (fun c vs w a hC he => by
    have hx' := (he x (by simp [Op.operands])).trans (hx vs)
    unfold OpV execOp
    simp only [hx', Instr.loadAt, Instr.sureAddr, Sem.run_bind, Sem.run_pure, Result.andThen_ok, hr w (hc c vs w hC)]
    exact ⟨.inr (by rw [ht]; rfl), trivial⟩) (bareB_spec (by rw [ht]; rfl)) hw hi hb
/-- An operation that tells something of what operation k left. -/
theorem Go2.fn {op : Op} {gk : Value → Value} (k : Nat) (h : ∀ c vs w (a : Act), C c vs w → (∀ j m, ch[j]? = some m → reachB ops 3 af m = true → j < c) → (∀ x ∈ op.operands, a.eval x = envOf ops T vs a0 af x) → (execOp a.eval ⟨d, op, τ, p, af, g⟩).run P w = .ok (.value (gk (vs k))) w)
    (ht : lvAt T i = .fn k gk := by rfl) (hd : (af.toList.any fun e => e.on == k && Region.binds .any e) = true := by rfl) (hw : wantC ops T ⟨d, op, τ, p, af, g⟩ = some true := by rfl) (hi : ch.contains i = false := by rfl) (hb : Blind C i := by intro _ _ _ _ h; exact h) : Go2 P ops a0 T ch C i ⟨d, op, τ, p, af, g⟩ :=
  fun Q L vs w a K ho hA hsee hoth hK => Go2.see ho hsee hoth hw fun he => by
    obtain ⟨c, hc, hL, hC⟩ := hA.j.st
    unfold OpV
    rw [h c vs w a hC (fun j m hj hm => of_decide_eq_true ((hL j m hj).symm.trans (reach_spec hA.closed 3 _ m hA.dep hm))) he]
    refine hK _ w (.inr (by rw [ht]; trivial)) (hA.j.next hA.new hi hb fun k' g' e => ?_)
    rw [ht] at e
    cases e
    exact ⟨Go.Proofs.YtaabcllghniaoaaDoor.dep hA.dep k hd, rfl⟩
def prevB (ops : Array Oper) (ch : List Nat) (af : Array Edge) (c : Nat) : Bool := match c with
  | 0 => true
  | c + 1 => match ch[c]? with
    | some m => reachB ops 3 af m
    | none => false
/-- The next of the writing operations. -/
theorem Go2.wr (c : Nat) (h : ∀ vs w (a : Act), C c vs w → (∀ k j g, lvAt T k = .fn j g → reachB ops 3 o.after k = true → vs k = g (vs j)) → (∀ x ∈ o.op.operands, a.eval x = envOf ops T vs a0 o.after x) → OpV P o a.eval w fun v w' => (o.dst = none ∨ (lvAt T i).F v) ∧ C (c + 1) (lset vs i v) w')
    (hc : ch[c]? = some i := by rfl) (hp : prevB ops ch o.after c = true := by rfl) (hnd : ch.Nodup := by decide) (hnf : bareB (lvAt T i) = true := by rfl) (hw : wantC ops T o = some true := by rfl) : Go2 P ops a0 T ch C i o :=
  fun Q L vs w a K ho hA hsee hoth hK => Go2.see ho hsee hoth hw fun he => by
    obtain ⟨c', hc', hL, hC⟩ := hA.j.st
    have hlt : c < ch.length := (List.getElem?_eq_some_iff.1 hc).1
    have hle : c' ≤ c := by
      have := (hL c i hc).symm.trans hA.new
      have := of_decide_eq_false this
      omega
    have hge : c ≤ c' := by
      cases c with
      | zero => omega
      | succ c =>
        unfold prevB at hp
        simp only at hp
        cases hm : ch[c]? with
        | none => rw [hm] at hp; cases hp
        | some m =>
          rw [hm] at hp
          have := of_decide_eq_true ((hL c m hm).symm.trans (reach_spec hA.closed 3 _ m hA.dep hp))
          omega
    have hcc : c' = c := by omega
    subst hcc
    refine (h vs w a hC (fun k j g hT hr => (hA.j.al k j g hT (reach_spec hA.closed 3 _ k hA.dep hr)).2) he).mono fun v w' ⟨h1, h2⟩ => hK v w' h1 ⟨⟨c' + 1, by omega, fun j k hk => ?_, h2⟩, fun k j g hT hLk => ?_⟩
    · by_cases hki : k = i
      · subst hki
        have hj : j = c' := (List.getElem?_inj (List.getElem?_eq_some_iff.1 hk).1 hnd).1 (hk.trans hc.symm)
        subst hj
        rw [lset_at, decide_eq_true (Nat.lt_succ_self _)]
      · have hj : j ≠ c' := fun e => by
          subst e
          rw [hk] at hc
          exact hki (Option.some.inj hc)
        rw [lset_ne hki, hL j k hk, decide_eq_decide]
        omega
    · have hki : k ≠ i := fun e => by
        subst e
        exact bareB_spec hnf _ _ hT
      rw [lset_ne hki] at hLk
      obtain ⟨h3, h4⟩ := hA.j.al k j g hT hLk
      have : j ≠ i := fun e => by rw [e, hA.new] at h3; cases h3
      exact ⟨by rw [lset_ne this]; exact h3, by rw [lset_ne hki, lset_ne this]; exact h4⟩
/-- The next of the writing operations is a call. -/
theorem Go2.cw {f : FuncId} {xs : Array Operand} {ats : Array TypeId} (c : Nat) (args : (Nat → Value) → Array Value) (h : ∀ vs w, C c vs w → Calls P f (args vs) w fun e w' => ∃ v, e = .returned v ∧ (lvAt T i).F v ∧ C (c + 1) (lset vs i v) w')
    (hfn : isFnB P f = true := by kernel_rfl) (hx : ∀ vs, (#[] ++ xs.map (envOf ops T vs a0 af) ++ #[]) = args vs := by intro _; kernel_rfl)
    (hc : ch[c]? = some i := by rfl) (hp : prevB ops ch af c = true := by rfl) (hnd : ch.Nodup := by decide) (hnf : bareB (lvAt T i) = true := by rfl) (hw : wantC ops T ⟨d, .call ⟨.value (.func f), xs, ats⟩, τ, p, af, g⟩ = some true := by rfl) : Go2 P ops a0 T ch C i ⟨d, .call ⟨.value (.func f), xs, ats⟩, τ, p, af, g⟩ :=
  Go2.wr c (fun vs w a hC _ he => by
    have e1 : xs.map a.eval = xs.map (envOf ops T vs a0 af) := Array.map_congr_left fun x hm => he x (by simp [Op.operands, Call.operands, hm])
    unfold OpV
    rw [execOp_call_go, e1, hx vs, run_fn hfn]
    simp only
    refine (h vs w hC).mono ?_
    rintro e w' ⟨v, rfl, h1, h2⟩
    exact ⟨.inr h1, h2⟩) hc hp hnd hnf hw
end
end Go.Proofs.YtaabcllghniaoaaDoor
