/- Single cells of a kept block, that several operations of one region write. -/
import Derived.Test.YtaabcllghniaoaaDoorBT
namespace Go.Proofs.YtaabcllghniaoaaDoor
open Go Go.RowKit
theorem run_store_cell {P : Program} {w : World} {b o : Nat} {ty : TypeId} {v : Value} (ht : w.there b o 1) (hi : (P.info? ty).map (·.size) = some 1) (h1 : v.oneCell' = true) : (storeVar ty ⟨b, o, none⟩ v).run P w = .ok () (w.setCell ⟨b, o, none⟩ v) := by
  have hc : v.cells = #[v] := by cases v <;> first | rfl | cases h1
  have h := run_storeVar_mid (P := P) w b o ty #[v] ht hi (by simp [h1])
  unfold storeVar at *
  rw [hc]
  exact h
section
variable {P : Program} {ops : Array Oper} {a0 : Act} {l : (Nat → Bool) → Kl} {w0 : World} {T : List Lv} {i : Nat} {τ : TypeId} {p : String} {af : Array Edge} {g : Option (Nat × Bool)}
/-- Block b holds f, by what has come up; operation i writes it. -/
def OvC (l : (Nat → Bool) → Kl) (i b : Nat) (f : (Nat → Bool) → Array Value) (t : TypeId) : Prop := ∀ L : Nat → Bool, L i = false → (b, f L, t) ∈ l L ∧ ∀ p ∈ l (lset L i true), p = (b, f (lset L i true), t) ∨ p ∈ l L ∧ p.1 ≠ b
theorem OvC.hr {b : Nat} {f : (Nat → Bool) → Array Value} {t : TypeId} {r : (Nat → Bool) → Kl} (hl : ∀ L, l L = (b, f L, t) :: r L) (hr : ∀ L, r (lset L i true) = r L) (hne : ∀ L, ∀ p ∈ r L, p.1 ≠ b) : OvC l i b f t := fun L hn => by
  refine ⟨by rw [hl]; exact .head _, fun p hp => ?_⟩
  rw [hl, hr] at hp
  rcases List.mem_cons.1 hp with rfl | hp
  · exact .inl rfl
  · exact .inr ⟨by rw [hl]; exact .tail _ hp, hne L p hp⟩
/-- A cell of a kept block is written. -/
theorem Go1.sc {ty t : TypeId} {x y : Operand} (b o : Nat) (f : (Nat → Bool) → Array Value) (v : Value) (hv : OvC l i b f t) (hset : ∀ L, L i = false → f (lset L i true) = (f L).setIfInBounds o v) (ho : ∀ L, o < (f L).size) (hb : w0.heap.size ≤ b) (hi : (P.info? ty).map (·.size) = some 1) (h1 : v.oneCell' = true := by rfl)
    (hy : ∀ vs, envOf ops T vs a0 af y = v := by intro _; kernel_rfl) (hx : ∀ vs, envOf ops T vs a0 af x = .pointer (some ⟨b, o, none⟩) := by intro _; kernel_rfl) (hm : notMk (lvAt T i) = true := by rfl) (hf : Lv.free T i = true := by rfl)
    (hw : wantC ops T ⟨none, .store ty x y, τ, p, af, g⟩ = some true := by rfl) : Go1 P ops a0 l w0 T i ⟨none, .store ty x y, τ, p, af, g⟩ :=
  Go1.of hw fun L vs w a K _ hA he hK => by
    obtain ⟨hmem, hch⟩ := hv L hA.new
    have hx' : a.eval x = .pointer (some ⟨b, o, none⟩) := (he x (by simp [Op.operands])).trans (hx vs)
    have hy' : a.eval y = v := (he y (by simp [Op.operands])).trans (hy vs)
    have h4 := hA.j.kp.1 _ hmem
    have hth : w.there b o 1 := h4.there o 1 (ho L)
    unfold OpV execOp
    simp only [hx', hy', Instr.storeAt, Instr.sureAddr, Sem.run_bind, Sem.run_pure, Result.andThen_ok, run_store_cell hth hi h1]
    exact hK _ _ (.inl rfl) (hA.j.over hA.new hf (notMk_spec hm) hmem hch (fun h => by rw [hset L hA.new]; exact h.setCell o v) (grown_setCellQ w b o v) (hA.j.kp.2.setCell hb v))
/-- A cell of a kept block is loaded: it is what it was, whatever of the block has been written. -/
theorem Go1.lc {d : Option Tmp} {ty : TypeId} {x : Operand} {v : Value} (b o : Nat) (hc : ∀ L w, Kp (l L) w0 w → w.cell? ⟨b, o, none⟩ = some v) (hr : ∀ (w : World), w.cell? ⟨b, o, none⟩ = some v → (loadVar ty ⟨b, o, none⟩).run P w = .ok v w)
    (hx : ∀ vs, envOf ops T vs a0 af x = .pointer (some ⟨b, o, none⟩) := by intro _; kernel_rfl) (ht : lvAt T i = .v v := by rfl)
    (hw : wantC ops T ⟨d, .load ty x, τ, p, af, g⟩ = some true := by rfl) (hf : Lv.free T i = true := by rfl) (hl : ∀ L, l (lset L i true) = l L := by intro _; rfl) : Go1 P ops a0 l w0 T i ⟨d, .load ty x, τ, p, af, g⟩ :=
  Go1.keep (fun L vs w a _ hA he => by
    have hx' := (he x (by simp [Op.operands])).trans (hx vs)
    unfold OpV execOp
    simp only [hx', Instr.loadAt, Instr.sureAddr, Sem.run_bind, Sem.run_pure, Result.andThen_ok, hr w (hc L w hA.j.kp)]
    exact ⟨.inr (by rw [ht]; rfl), Below.refl _ _⟩) hw (by rw [ht]; rfl) hf hl
end
theorem load_u8 {b o : Nat} {x : Int} (w : World) (h : w.cell? ⟨b, o, none⟩ = some (.int .u8 x)) : (loadVar 5 ⟨b, o, none⟩).run Tryd.prog w = .ok (.int .u8 x) w := by
  go_simp
theorem load_i64 {b o : Nat} {x : Int} (w : World) (h : w.cell? ⟨b, o, none⟩ = some (.int .i64 x)) : (loadVar 3 ⟨b, o, none⟩).run Tryd.prog w = .ok (.int .i64 x) w := by
  go_simp
theorem one_u8 : (Tryd.prog.info? 5).map (·.size) = some 1 := by kernel_rfl
end Go.Proofs.YtaabcllghniaoaaDoor
