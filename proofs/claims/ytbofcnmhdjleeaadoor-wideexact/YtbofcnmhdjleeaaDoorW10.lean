/- The walk of the laws' TwinRows. -/
import Derived.Test.YtbofcnmhdjleeaaDoorW9
namespace Go.Proofs.YtbofcnmhdjleeaaDoor
open Go.RowKit

theorem info23 : (Tryd.prog.info? 23).map (fun i => (i.zero, i.size, i.bytes)) = some (some (.slice none 0 0), 1, 24) := by kernel_rfl
theorem ownsRow_below {w w' : World} {base n e : Nat} {v : Value} {xs : List Value} (h : w.ownsRow base e 1 v n xs) (hB : Below w.heap.size w w') : w'.ownsRow base e 1 v n xs := by
  obtain ⟨h1, h2 | ⟨g', cap, cur, h2, h3, h4, h5⟩⟩ := h
  · exact ⟨h1, .inl h2⟩
  · refine ⟨h1, .inr ⟨g', cap, cur, h2, h3, ?_, h5⟩⟩
    rw [hB.block g' (Array.getElem?_eq_some_iff.1 h4).1]; exact h4
theorem BytesV.grownO {w w' : World} {row : Option Nat} {a : Option Addr} {len cap : Nat} {m : List Int} (h : BytesV w a len cap m) (hg : w.grownBy w' row) (hb : ∀ x, a = some x → row ≠ some x.block) : BytesV w' a len cap m := by
  obtain ⟨h1, h2, h3, h4, h5⟩ := h
  refine ⟨h1, h2, h3, h4, fun hp => ?_⟩
  obtain ⟨b, off, e, hr⟩ := h5 hp
  refine ⟨b, off, e, fun j v hv => ?_⟩
  have hc := hr j v hv
  rw [World.cell?_of_block (w := w) (hg.block b (World.block_lt_of_cell? w _ hc) (fun e' => hb _ e e'.symm))]; exact hc
theorem OwnBytes.nil {w : World} {base : Nat} {a : Option Addr} {len cap : Nat} {xs : List Int} (h : OwnBytes w base (.slice a len cap) xs) : a = none → cap = 0 := by
  rintro rfl
  obtain ⟨h1, ⟨h2, h3⟩ | ⟨g, cap', cur, h2, _⟩⟩ := h
  · injection h2
  · injection h2 with e; cases e
theorem below_of_grown {w w' : World} (h : w.grownBy w' none) : Below w.heap.size w w' := (Below.refl w.heap.size w).grown h (Nat.le_refl _) (fun k e => by cases e)
/-- What is told of the rows that were twinned so far. -/
structure Twins (w : World) (base : Nat) (v : Value) (ps : List (Option Addr × Nat × List Int)) : Prop where
  row : w.ownsRow base 23 1 v ps.length (ps.map slv)
  each : ∀ p ∈ ps, BytesV w p.1 p.2.2.length p.2.1 p.2.2 ∧ (p.1 = none → p.2.1 = 0)
  apart : ∀ p ∈ ps, ∀ x, p.1 = some x → x.block < w.heap.size ∧ v.ownBlock ≠ some x.block
theorem Twins.rowsV {w : World} {base : Nat} {v : Value} {ps : List (Option Addr × Nat × List Int)} (h : Twins w base v ps) : ∃ a cap, v = .slice a ps.length cap ∧ RowsV w a ps.length cap (ps.map (·.2.2)) := by
  obtain ⟨h1, ⟨h2, h3⟩ | ⟨g, cap, cur, h2, h3, h4, h5, h6, h7, h8⟩⟩ := h.row
  · obtain rfl := List.eq_nil_of_length_eq_zero h3
    exact ⟨none, 0, h2, rowsV_nil _⟩
  · refine ⟨_, cap, h2, by simp, h5, h6, fun _ => ⟨g, 0, rfl, fun i m hm => ?_⟩⟩
    rw [List.getElem?_map] at hm
    cases hp : ps[i]? with
    | none => simp [hp] at hm
    | some p =>
      rw [hp] at hm
      obtain rfl := Option.some.inj hm
      obtain ⟨e1, e2⟩ := h.each p (List.mem_of_getElem? hp)
      refine ⟨p.1, p.2.1, ?_, e1, e2⟩
      have hi : i < ps.length := (List.getElem?_eq_some_iff.1 hp).1
      rw [Nat.zero_add, cell_of_row w g i cur 23 (0, 0) h4]
      have : (ps.map slv)[i]? = some (slv p) := by simp [hp]
      rw [← h8, List.getElem?_take, if_pos (by omega)] at this
      simpa [slv] using this

set_option maxRecDepth 100000 in
set_option maxHeartbeats 1000000 in
theorem twinRows_any (a : Option Addr) (len cap : Nat) (ms : List (List Int)) (w : World) (hR : RowsV w a len cap ms) (hl : len ≤ 1000) (hms : ∀ m ∈ ms, m.length ≤ 1000000) :
    Calls Tryd.prog 6 #[.slice a len cap] w fun e w' => ∃ a' cap', e = .returned (.slice a' len cap') ∧ RowsV w' a' len cap' ms ∧ Below w.heap.size w w' := by
  obtain ⟨i, hi, hz, hsize, hby⟩ : ∃ i, Tryd.prog.info? 23 = some i ∧ i.zero = some (.slice none 0 0) ∧ i.size = 1 ∧ i.bytes = 24 := by
    have := info23
    cases hq : Tryd.prog.info? 23 with
    | none => simp [hq] at this
    | some i => exact ⟨i, rfl, by simp [hq] at this; exact this⟩
  have HI := show Hid (_ ∧ _ ∧ _ ∧ _) from ⟨hi, hz, hsize, hby⟩
  clear hi hz hsize hby
  have hli : (len : Int) ≤ 1000 := by omega
  have hlm : len = ms.length := hR.1
  have HL := show Hid _ from hlm
  clear hlm
  go_enter Tryd.func6, Tryd.ntmps6
  go_wp2_with fail
  go_loopw [3, 4] (fun v i wr => ∃ (k : Nat) (ps : List (Option Addr × Nat × List Int)), k ≤ len ∧ i = .int .i64 (k : Int) ∧ ps.map (·.2.2) = ms.take k ∧ Twins wr w.heap.size v ps ∧ Below w.heap.size w wr) (fun _ i _ => len - (intOf i).toNat)
  case atStart => exact ⟨0, [], Nat.zero_le _, rfl, rfl, ⟨World.ownsRow_nil _ _ _ _, (fun _ hp => by cases hp), (fun _ hp => by cases hp)⟩, Below.refl _ _⟩
  case round =>
    obtain ⟨k, ps, hk, rfl, hps, hTw, hb⟩ := hrel
    have hpl : ps.length = k := by
      have := congrArg List.length hps
      rw [List.length_map, List.length_take] at this
      have := HL.out; omega
    have HPS := show Hid _ from hps
    have HPL := show Hid _ from hpl
    clear hps hpl
    by_cases hkl : k < len
    · have hki : (k : Int) < (len : Int) := by omega
      have hk0 : (0 : Int) ≤ (k : Int) := by omega
      obtain ⟨b, off, m, a', cap', rfl, hm, hc, hv, hn'⟩ := hR.at k hkl
      have hml : m.length ≤ 1000000 := hms m (List.mem_of_getElem? hm)
      have hc' : wr.cell? ⟨b, off + k, none⟩ = some (.slice a' m.length cap') := by rw [hb.cell (World.block_lt_of_cell? w _ hc)]; exact hc
      have HM := show Hid _ from hm
      clear hc hm
      go_wp2_with fail
      refine (twin_any a' cap' m wr (hv.below hb) hn' hml).mono ?_
      rintro e w1 ⟨a1, cap1, rfl, hO1, hV1, hg1⟩
      have hb1 := below_of_grown hg1
      have hal := alloc_below w1 (.cells #[.slice a1 m.length cap1] 23)
      have hb2 := bel hb1 hal
      have hown := ownsRow_below hTw.row hb2
      have hnew : ∀ (j : Nat) (u : Value), [slv (a1, cap1, m)][j]? = some u → (w1.alloc (.cells #[.slice a1 m.length cap1] 23)).cell? ((⟨w1.heap.size, 0, none⟩ : Addr).add j) = some u := fun j u hu => by
        rw [Addr.add_mid, Nat.zero_add, cell_of_row _ w1.heap.size j #[.slice a1 m.length cap1] 23 (0, 0) (heap_alloc_last w1 _)]
        simpa [slv] using hu
      have hV2 := hV1.below hal
      have hfr : ∀ x, a1 = some x → wr.heap.size ≤ x.block ∧ x.block < w1.heap.size := fun x hx => by
        obtain ⟨-, ⟨e, _⟩ | ⟨g, cp, cur, e, h3, h4, _⟩⟩ := hO1
        · rw [hx] at e; injection e with e; cases e
        · rw [hx] at e; injection e with e; cases e
          exact ⟨h3, (Array.getElem?_eq_some_iff.1 h4).1⟩
      have hsz2 : w.heap.size ≤ (w1.alloc (.cells #[.slice a1 m.length cap1] 23)).heap.size := Nat.le_trans hb.size hb2.size
      go_wp2_with (at_builtin; refine wpList_append_own_at (P := Tryd.prog) _ (by rfl) (.tmp 11) (.tmp 17) 22 (by rfl) w.heap.size 23 i (.slice none 0 0) 1 24 Tryd.underlying22 HI.out.1 HI.out.2.1 HI.out.2.2.1 HI.out.2.2.2 rfl (by decide) _ ps.length (ps.map slv) (by rfl) hown ⟨w1.heap.size, 0, none⟩ 1 1 [slv (a1, cap1, m)] (by rfl) rfl hnew (fun u hu => by simp only [List.mem_singleton] at hu; subst hu; rfl) (by rw [HPL.out]; unfold maxLen; omega) (by rw [HPL.out]; omega) hsz2 ?_; intro v3 w3 hO3 hg3 _ hat3)
      go_roundw
      case rel =>
        refine ⟨k + 1, ps ++ [(a1, cap1, m)], by omega, by go_num, ?_, ⟨by rw [List.length_append, List.map_append]; exact hO3, fun p hp => ?_, fun p hp x hx => ?_⟩, (bel hb hb2).grown hg3 hsz2 (fun g e => (hTw.row.lt g e).1)⟩
        · rw [List.map_append, HPS.out]
          obtain ⟨hk', e⟩ := List.getElem?_eq_some_iff.1 HM.out
          rw [List.take_succ_eq_append_getElem hk', e]; rfl
        · rcases List.mem_append.1 hp with h | h
          · obtain ⟨h1, h2⟩ := hTw.each p h
            exact ⟨(h1.below hb2).grownO hg3 (fun x hx e => (hTw.apart p h x hx).2 e), h2⟩
          · simp only [List.mem_singleton] at h; subst h
            exact ⟨hV2.grownO hg3 (fun x hx e => by have := (hTw.row.lt _ e).2; have := (hfr x hx).1; omega), hO1.nil⟩
        · have hlt : x.block < (w1.alloc (.cells #[.slice a1 m.length cap1] 23)).heap.size := by
            rcases List.mem_append.1 hp with h | h
            · exact Nat.lt_of_lt_of_le (hTw.apart p h x hx).1 hb2.size
            · simp only [List.mem_singleton] at h; subst h
              have := (hfr x hx).2; simp; omega
          refine ⟨Nat.lt_of_lt_of_le hlt hg3.size, ?_⟩
          rcases hat3 with e | e
          · rw [e]
            rcases List.mem_append.1 hp with h | h
            · exact (hTw.apart p h x hx).2
            · simp only [List.mem_singleton] at h; subst h
              exact fun e => by have := (hTw.row.lt _ e).2; have := (hfr x hx).1; omega
          · rw [e]; intro e'; injection e' with e'; omega
      case measure => simp [intOf]; omega
    · have hki : ¬ (k : Int) < (len : Int) := by omega
      obtain ⟨a', cap', rfl, hRV⟩ := hTw.rowsV
      rw [HPS.out, HPL.out, List.take_of_length_le (by have := HL.out; omega)] at hRV
      rw [HPL.out]
      have Hk : Hid (k = len) := show k = len by omega
      rw [Hk.out] at hRV ⊢
      go_wp2_with fail
      go_ret
      exact ⟨a', cap', rfl, hRV, hb⟩
end Go.Proofs.YtbofcnmhdjleeaaDoor
