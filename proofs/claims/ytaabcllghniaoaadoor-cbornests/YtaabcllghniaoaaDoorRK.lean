/- Rows of bytes that the call has grown before: appended to within a region; single cells written. -/
import Derived.Test.YtaabcllghniaoaaDoorRL
import Derived.Test.YtaabcllghniaoaaDoorTS
import Derived.Test.YtaabcllghniaoaaDoorBA
namespace Go.Proofs.YtaabcllghniaoaaDoor
open Go Go.RowKit
theorem own_low {w : World} {B B' : Nat} {v : Value} {xs : List Int} (h : OwnBytes w B v xs) (hB : B' ≤ B) : OwnBytes w B' v xs := by
  obtain ⟨h1, h2 | ⟨g, cap, cur, h2, h3, h4⟩⟩ := h
  · exact ⟨h1, .inl h2⟩
  · exact ⟨h1, .inr ⟨g, cap, cur, h2, Nat.le_trans hB h3, h4⟩⟩
theorem own_apart {w w' : World} {base : Nat} {v : Value} {xs : List Int} {b : Nat} (h : OwnBytes w base v xs) (hg : w.grownBy w' (some b)) (hne : ∀ g ∈ blks v, g ≠ b) : OwnBytes w' base v xs := by
  obtain ⟨h1, h2 | ⟨g', cap, cur, rfl, h3, h4, h5⟩⟩ := h
  · exact ⟨h1, .inl h2⟩
  · refine ⟨h1, .inr ⟨g', cap, cur, rfl, h3, ?_, h5⟩⟩
    rw [hg.block g' (Array.getElem?_eq_some_iff.1 h4).1 (fun e => hne g' (.head _) (Option.some.inj e))]
    exact h4
/-- A row of bytes that the call has grown, by its block. -/
def RowB (cur : Array Value) (cap : Nat) (xs : List Int) : Prop := cur.size = cap ∧ xs.length ≤ cap ∧ cap ≤ maxLen ∧ cur.toList.take xs.length = u8s xs
theorem RowB.own {w : World} {base g cap : Nat} {cur : Array Value} {xs : List Int} (h : RowB cur cap xs) (hb : base ≤ g) (ho : Own w g cur 5) : OwnBytes w base (.slice (some ⟨g, 0, none⟩) xs.length cap) xs :=
  ⟨by simp [u8s], .inr ⟨g, cap, cur, rfl, hb, ho, h.2.1, h.2.2.1, by rw [h.1, Nat.mul_one], by rw [Nat.mul_one]; exact h.2.2.2⟩⟩
theorem OwnBytes.rowB {w : World} {base n cap : Nat} {a : Option Addr} {xs : List Int} (h : OwnBytes w base (.slice a n cap) xs) (hp : 0 < n) : ∃ g cur, a = some ⟨g, 0, none⟩ ∧ n = xs.length ∧ base ≤ g ∧ Own w g cur 5 ∧ RowB cur cap xs := by
  obtain ⟨h1, ⟨h2, h3⟩ | ⟨g, c, cur, h2, h3, h4, h5, h6, h7, h8⟩⟩ := h
  · simp only [Value.slice.injEq] at h2
    omega
  · simp only [Value.slice.injEq] at h2
    obtain ⟨rfl, rfl, rfl⟩ := h2
    exact ⟨g, cur, rfl, rfl, h3, h4, by rw [h7, Nat.mul_one], h5, h6, by rw [← h8, Nat.mul_one]⟩
section
variable {ops : Array Oper} {a0 : Act} {l : (Nat → Bool) → Kl} {w0 : World} {T : List Lv} {i : Nat} {d : Option Tmp} {τ : TypeId} {p : String} {af : Array Edge} {gd : Option (Nat × Bool)}
/-- A text is appended to a row that the call had grown before: its block is kept until then. -/
theorem Go1.ak {s x : Operand} {xs m : List Int} {cap : Nat} {cur : Array Value} (g : Nat) (hrow : RowB cur cap xs) (hb : w0.heap.size ≤ g) (hl : ∀ L, L i = false → (g, cur, 5) ∈ l L ∧ ∀ p ∈ l (lset L i true), p ∈ l L ∧ p.1 ≠ g)
    (hm : ∀ L vs w, At ops l w0 T i ⟨d, .call { callee := .builtin .append, args := #[s, x], argTypes := #[25, 25] }, τ, p, af, gd⟩ L vs w → Tx w (envOf ops T vs a0 af x) m) (hn : xs.length + m.length ≤ 1099511627776)
    (ht : lvAt T i = .ow (obR w0.heap.size (xs ++ m)) := by rfl) (hs : ∀ vs, envOf ops T vs a0 af s = .slice (some ⟨g, 0, none⟩) xs.length cap := by intro _; kernel_rfl)
    (hw : wantC ops T ⟨d, .call { callee := .builtin .append, args := #[s, x], argTypes := #[25, 25] }, τ, p, af, gd⟩ = some true := by rfl) (hf : Lv.free T i = true := by rfl) : Go1 Tryd.prog ops a0 l w0 T i ⟨d, .call { callee := .builtin .append, args := #[s, x], argTypes := #[25, 25] }, τ, p, af, gd⟩ :=
  Go1.of hw fun L vs w a K _ hA he hK => by
    obtain ⟨hmem, hsub⟩ := hl L hA.new
    have ho : Own w g cur 5 := hA.j.kp.1 _ hmem
    have hx := hm L vs w hA
    rw [← he x (by simp [Op.operands, Call.operands])] at hx
    refine (app_is s x rfl ((he s (by simp [Op.operands, Call.operands])).trans (hs vs)) (hrow.own hb ho) hx hn hA.j.kp.2.size).mono fun v w' ⟨h1, ⟨r, h2, h3⟩, h4⟩ => ?_
    have hr : ∀ b, b ≠ g → some b ≠ r := fun b hb' e => by
      have := h3 b e.symm
      obtain rfl : b = g := by simpa [blks] using this
      exact hb' rfl
    have hg4 : ∀ b ∈ blks v, b = g ∨ w.heap.size ≤ b ∧ b < w'.heap.size := fun b hb' => by
      rcases h4 b hb' with h | h
      · exact .inl (by simpa [blks] using h)
      · exact .inr h
    refine hK _ _ (.inr (by rw [ht]; trivial)) (hA.j.next0 hA.new ⟨fun p' hp' => ?_, ?_⟩ h2.size (fun b hb' p' hp' => hb' p' (hsub p' hp').1) (fun k hk hL _ hz b hb' => .inl ?_) (fun k A B t hT _ _ => absurd rfl (free_ne hf hT)) (fun _ b hb' => ?_) (fun _ k hk hki hL b hb' hv => ?_)
      (fun _ _ _ _ e => by rw [ht] at e; cases e) (fun _ _ e => by rw [ht] at e; cases e) (fun R e => by rw [ht] at e; cases e; exact h1) (fun _ _ e => by rw [ht] at e; cases e) (fun _ _ e => by rw [ht] at e; cases e))
    · have h5 := hsub p' hp'
      have h6 := hA.j.kp.1 p' h5.1
      unfold Own
      rw [h2.block p'.1 h6.lt (hr p'.1 h5.2)]
      exact h6
    · have hB := hA.j.kp.2
      exact hB.grown h2 hB.size fun b e => by
        have := h3 b e
        obtain rfl : b = g := by simpa [blks] using this
        exact hb
    · obtain ⟨-, h6, h7⟩ := hA.j.fr k hk hL b hb'
      exact h2.block b h6 (hr b (fun e => h7 _ hmem e.symm))
    · rcases hg4 b hb' with rfl | ⟨h5, h6⟩
      · exact ⟨hb, Nat.lt_of_lt_of_le ho.lt h2.size, fun p' hp' => (hsub p' hp').2⟩
      · exact ⟨Nat.le_trans hA.j.kp.2.size h5, h6, fun p' hp' => Nat.ne_of_lt (Nat.lt_of_lt_of_le (hA.j.kp.1 p' (hsub p' hp').1).lt h5)⟩
    · obtain ⟨hL', hz⟩ := live_lset hki hL
      obtain ⟨-, h6, h7⟩ := hA.j.fr k hk hL' b hb'
      rcases hg4 b hv with rfl | ⟨h5, -⟩
      · exact h7 _ hmem rfl
      · omega
end
/-- A single cell of an own block is written. -/
theorem wpList_store_one {P : Program} {ops : Array Oper} {rest : List Oper} {op : Oper} {a : Act} {w : World} {Q : Exit → Act → World → Prop} (hgd : op.guard = none) (ty : TypeId) (x y : Operand) (ho : op.op = .store ty x y)
    (b o : Nat) (v : Value) (hx : a.eval x = .pointer (some ⟨b, o, none⟩)) (hy : a.eval y = v) {A : Array Value} {t : TypeId} (ht : Own w b A t) (hs : o < A.size) (hi : (P.info? ty).map (·.size) = some 1) (h1 : v.oneCell' = true) (hd : op.dst = none)
    (h : wpList P ops Q rest a (w.setCell ⟨b, o, none⟩ v)) : wpList P ops Q (op :: rest) a w :=
  wpList_plain hgd fun _ hK => by
    unfold Oper.wp execOp
    simp only [ho, hx, hy, Instr.storeAt, Instr.sureAddr, Sem.run_bind, Sem.run_pure, Result.andThen_ok, run_store_cell (ht.there o 1 hs) hi h1]
    exact hK _ _ (by rw [hd]; exact h)
theorem load_bytes {b o : Nat} {a : Option Addr} {n c : Nat} (w : World) (h : w.cell? ⟨b, o, none⟩ = some (.slice a n c)) : (loadVar 25 ⟨b, o, none⟩).run Tryd.prog w = .ok (.slice a n c) w := by
  go_simp
theorem one_bytes : (Tryd.prog.info? 25).map (·.size) = some 1 := by kernel_rfl
theorem one_i64 : (Tryd.prog.info? 3).map (·.size) = some 1 := by kernel_rfl
/-- An own block's three cells. -/
theorem own_three {w : World} {b : Nat} {x y z : Value} {t : TypeId} (h : Own w b #[x, y, z] t) : w.cell? ⟨b, 0, none⟩ = some x ∧ w.cell? ⟨b, 1, none⟩ = some y ∧ w.cell? ⟨b, 2, none⟩ = some z := ⟨h.cell rfl, h.cell rfl, h.cell rfl⟩
end Go.Proofs.YtaabcllghniaoaaDoor
