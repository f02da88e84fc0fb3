/- The laws' own helpers on rows of tokens: too heavy, a twin, held against one another. -/
import Derived.Test.YtaabcllghniaoaaDoorCM
import Derived.Test.YtaabcllghniaoaaDoorRC
import Derived.Test.YtaabcllghniaoaaDoorRK
import Derived.Test.YtaabcllghniaoaaDoorHBL
namespace Go.Proofs.YtaabcllghniaoaaDoor
open Go Go.RowKit
theorem run_build_tok {ρ : Operand → Value} {o : Oper} (s t u : Nat) (ho : o.op = .build 45 #[(0, .tmp s), (1, .tmp t), (2, .tmp u)]) {x y : Int} {a : Option Addr} {n c : Nat} (hs : ρ (.tmp s) = .int .i64 x) (ht : ρ (.tmp t) = .int .i64 y) (hu : ρ (.tmp u) = .slice a n c) (w : World) : (execOp ρ o).run Tryd.prog w = .ok (.value (.agg #[.int .i64 x, .int .i64 y, .slice a n c])) w := by
  unfold execOp
  rw [ho]
  go_simp
theorem run_slice_tok {ρ : Operand → Value} {o : Oper} (s : Nat) (ho : o.op = .buildSlice 22 1 #[(0, .tmp s)]) {x y : Int} {a : Option Addr} {n c : Nat} (hs : ρ (.tmp s) = .agg #[.int .i64 x, .int .i64 y, .slice a n c]) (w : World) : (execOp ρ o).run Tryd.prog w = .ok (.value (.slice (some ⟨w.heap.size, 0, none⟩) 1 1)) (w.alloc (.cells #[.int .i64 x, .int .i64 y, .slice a n c] 45)) := by
  unfold execOp
  rw [ho]
  go_simp
/-- A row of one token. -/
theorem toks_one {w : World} {g : Nat} {t : Tk} {v : Value} {P : Nat → Prop} (ho : Own w g #[.int .i64 t.k, .int .i64 t.n, v] 45) (ht : t.wf) (hv : Tx w v t.b) (hP : 0 < t.b.length → ∀ b ∈ blks v, P b) : ToksP P w (some ⟨g, 0, none⟩) 1 [t] := by
  refine ⟨⟨rfl, Nat.le_refl _, by decide, fun t' h => by obtain rfl := List.mem_singleton.1 h; exact ht, fun _ => ⟨g, 0, rfl, fun i t' hi => ?_⟩⟩, fun e => by cases e⟩
  have : i = 0 := by
    have := (List.getElem?_eq_some_iff.1 hi).1
    simp at this
    exact this
  subst this
  simp only [List.getElem?_cons_zero, Option.some.injEq] at hi
  subst hi
  obtain ⟨c1, c2, c3⟩ := own_three ho
  exact ⟨c1, c2, v, c3, hv, hP⟩
set_option maxRecDepth 100000 in
set_option maxHeartbeats 4000000 in
theorem twintoks_is {a : Option Addr} {cap : Nat} {l : List Tk} {w : World} (hm : Toks w a cap l) (hl : l.length ≤ 1000) (hb : ∀ t ∈ l, t.b.length ≤ 100000) : Calls Tryd.prog 10 #[.slice a l.length cap] w fun e w' => ∃ a' c', e = .returned (.slice a' l.length c') ∧ OwnToks w' w.heap.size (.slice a' l.length c') l ∧ Below w.heap.size w w' := by
  have hlen : (l.length : Int) ≤ 1000 := by omega
  go_enter Tryd.func10, Tryd.ntmps10
  go_upto_region 3 with fail
  go_loopw [3, 4] (fun v iv wr => ∃ (i n c : Nat) (ga : Option Addr), i ≤ l.length ∧ iv = .int .i64 (i : Int) ∧ v = .slice ga n c ∧ Hid (n = i) ∧ Hid (OwnToks wr w.heap.size (.slice ga n c) (l.take i)) ∧ Below w.heap.size w wr) (fun _ iv _ => l.length - (intOf iv).toNat)
  case atStart => exact ⟨0, 0, 0, none, Nat.zero_le _, rfl, rfl, rfl, by show OwnToks _ _ _ _; rw [List.take_zero]; exact ownToks_nil _ _, Below.refl _ _⟩
  case round =>
    obtain ⟨i, n, c, ga, hi, rfl, rfl, hn, hO, hB⟩ := hrel
    have hi0 : (0 : Int) ≤ (i : Int) := by omega
    by_cases hlt : i < l.length
    · have hlt' : (i : Int) < (l.length : Int) := by omega
      obtain ⟨t, ht⟩ : ∃ t, Hid (l[i]? = some t) := ⟨l[i], List.getElem?_eq_getElem hlt⟩
      obtain ⟨b, off, rfl, hat⟩ := hm.1.at ht.out
      obtain ⟨c1, c2, _, c3, ⟨ta, tc, rfl, htx⟩, -⟩ := hat
      have hwf := show Hid _ from hm.1.2.2.2.1 t (List.mem_of_getElem? ht.out)
      have hbt := show Hid _ from hb t (List.mem_of_getElem? ht.out)
      have hbl := World.block_lt_of_cell? w _ c1
      obtain ⟨k, y, bb⟩ := t
      simp only at c1 c2 c3 htx
      have keep : ∀ {o : Nat} {v : Value} (wq : World), Below w.heap.size w wq → w.cell? ⟨b, o, none⟩ = some v → wq.cell? ⟨b, o, none⟩ = some v := fun wq h1 h2 => (h1.cell (p := ⟨b, _, none⟩) (show b < w.heap.size from hbl)).trans h2
      have keep := show Hid _ from @keep
      have c1 := show Hid _ from c1
      have c2 := show Hid _ from c2
      have c3 := show Hid _ from c3
      go_upto_region 5 with fail
      refine wp_region_ch 32 [.v (.slice ga n c), .v (.slice (some ⟨b, off, none⟩) l.length cap), .v (.int .i64 (i : Int)), .v (.pointer (some ⟨b, off + i * 3, none⟩)), .v (.pointer (some ⟨b, off + i * 3, none⟩)), .v (.int .i64 k),
          .v (.slice (some ⟨b, off, none⟩) l.length cap), .v (.int .i64 (i : Int)), .v (.pointer (some ⟨b, off + i * 3, none⟩)), .v (.pointer (some ⟨b, off + i * 3 + 1, none⟩)), .v (.int .i64 y),
          .v (.slice (some ⟨b, off, none⟩) l.length cap), .v (.int .i64 (i : Int)), .v (.pointer (some ⟨b, off + i * 3, none⟩)), .v (.pointer (some ⟨b, off + i * 3 + 2, none⟩)), .v (.slice ta bb.length tc), .o, .fn 16 (fun v => .agg #[.int .i64 k, .int .i64 y, v]), .o, .o, .fn 19 (fun v => v)] [16, 18, 19]
        (fun c' vs wq => Below w.heap.size w wq ∧ match c' with
          | 0 => Below wr.heap.size wr wq
          | 1 => Below wr.heap.size wr wq ∧ Tx wq (vs 16) bb ∧ ∀ g ∈ blks (vs 16), wr.heap.size ≤ g
          | 2 => Below wr.heap.size wr wq ∧ Tx wq (vs 16) bb ∧ (∀ g ∈ blks (vs 16), wr.heap.size ≤ g) ∧ ∃ g, vs 18 = .slice (some ⟨g, 0, none⟩) 1 1 ∧ Own wq g #[.int .i64 k, .int .i64 y, vs 16] 45
          | _ => OwnToks wq w.heap.size (vs 19) (l.take i ++ [⟨k, y, bb⟩]) ∧ ∃ a' c1, vs 16 = .slice a' bb.length c1) (fun _ => ⟨hB.trans ((Below.refl _ _).drew), (Below.refl _ _).drew⟩) (by kernel_rfl) (by kernel_rfl) (by kernel_rfl) (by rfl) (by kernel_rfl) ?_ ?_
      · refine .c (.p1 3 (.slice ga n c)) <| .c (.p1 0 (.slice (some ⟨b, off, none⟩) l.length cap)) <| .c (.p1 4 (.int .i64 (i : Int))) <| .c (.p2 12 (.slice (some ⟨b, off, none⟩) l.length cap) 13 (.int .i64 (i : Int))) <| .c (.p1 14 (.pointer (some ⟨b, off + i * 3, none⟩))) <| .c (.lc b (off + i * 3) (fun _ _ wq hC => keep.out wq hC.1 c1.out) load_i64) <|
          .c (.p1 0 (.slice (some ⟨b, off, none⟩) l.length cap)) <| .c (.p1 4 (.int .i64 (i : Int))) <| .c (.p2 17 (.slice (some ⟨b, off, none⟩) l.length cap) 18 (.int .i64 (i : Int))) <| .c (.p1 19 (.pointer (some ⟨b, off + i * 3, none⟩))) <| .c (.lc b (off + i * 3 + 1) (fun _ _ wq hC => keep.out wq hC.1 c2.out) load_i64) <|
          .c (.p1 0 (.slice (some ⟨b, off, none⟩) l.length cap)) <| .c (.p1 4 (.int .i64 (i : Int))) <| .c (.p2 22 (.slice (some ⟨b, off, none⟩) l.length cap) 23 (.int .i64 (i : Int))) <| .c (.p1 24 (.pointer (some ⟨b, off + i * 3, none⟩))) <| .c (.lc b (off + i * 3 + 2) (fun _ _ wq hC => keep.out wq hC.1 c3.out) load_bytes) <|
          .c (.cw 0 (fun _ => #[.slice ta bb.length tc]) ?_) <| .c (.fn 16 ?_) <| .c (.wr 1 ?_) <| .c (.wr 2 ?_) <| .c (.fn 19 ?_) .nil
        · intro vs wq hC
          refine (twin_is (htx.below hC.1) (Nat.le_trans hbt.out (by decide))).mono ?_
          rintro e w2 ⟨a', c', rfl, hO2, ht2, hb2⟩
          have htw := tx_own hO2 ht2.1.2.2.2.1
          exact ⟨_, rfl, trivial, hC.1.trans (hb2.mono hC.1.size), hC.2.trans (hb2.mono hC.2.size), ⟨a', c', rfl, ht2⟩, fun g hg => Nat.le_trans hC.2.size (htw.2 g hg).1⟩
        · intro c' vs wq ac hC hpast he
          have h0 : 0 < c' := hpast 0 16 rfl (by rfl)
          have hT : Tx wq (vs 16) bb ∨ ∃ a' c1, vs 16 = .slice a' bb.length c1 := by
            match c', h0 with
            | 1, _ => exact .inl hC.2.2.1
            | 2, _ => exact .inl hC.2.2.1
            | 3, _ => exact .inr hC.2.2
            | c' + 4, _ => exact .inr hC.2.2
          have hT : ∃ a' c1, vs 16 = .slice a' bb.length c1 := hT.elim (fun ⟨a', c1, h, _⟩ => ⟨a', c1, h⟩) id
          obtain ⟨a', c1, e⟩ := hT
          have h1 : ac.tmps.getD 16 undef = .int .i64 k := (he (.tmp 16) (by simp [Op.operands])).trans (by kernel_rfl)
          have h2 : ac.tmps.getD 21 undef = .int .i64 y := (he (.tmp 21) (by simp [Op.operands])).trans (by kernel_rfl)
          have h3 : ac.tmps.getD 27 undef = vs 16 := (he (.tmp 27) (by simp [Op.operands])).trans (by kernel_rfl)
          rw [e] at h3 ⊢
          exact run_build_tok 16 21 27 rfl h1 h2 h3 wq
        · intro vs wq ac hC hal he
          obtain ⟨hB1, hB2, ⟨a', c1, e, htw⟩, hfr⟩ := hC
          have h1 : ac.tmps.getD 28 undef = vs 17 := (he (.tmp 28) (by simp [Op.operands])).trans (by kernel_rfl)
          rw [hal 17 16 _ rfl (by rfl), e] at h1
          unfold OpV
          rw [run_slice_tok 28 rfl h1 wq]
          refine ⟨.inr trivial, hB1.trans ((alloc_below wq _).mono hB1.size), hB2.trans ((alloc_below wq _).mono hB2.size), ⟨a', c1, e, htw.below (alloc_below wq _)⟩, hfr, wq.heap.size, rfl, ?_⟩
          rw [show lset vs 18 (.slice (some ⟨wq.heap.size, 0, none⟩) 1 1) 16 = vs 16 from rfl, e]
          exact own_new wq _ _
        · intro vs wq ac hC hal he
          obtain ⟨hB1, hB2, hx, hfr, g, e18, hOg⟩ := hC
          have h1 : ac.tmps.getD 11 undef = .slice ga n c := (he (.tmp 11) (by simp [Op.operands, Call.operands])).trans (by kernel_rfl)
          have h2 : ac.tmps.getD 29 undef = vs 18 := (he (.tmp 29) (by simp [Op.operands, Call.operands])).trans (by kernel_rfl)
          rw [e18] at h2
          have hOwn : OwnToks wq w.heap.size (.slice ga n c) (l.take i) := hO.out.below hB2
          have hrow := toks_one (t := ⟨k, y, bb⟩) (P := fun b => wr.heap.size ≤ b) hOg hwf.out hx (fun _ => hfr)
          refine (tokApp_is (.tmp 11) (.tmp 29) rfl h1 hOwn h2 hrow (fun g' hg' g2 hg2 => ?_) (by simp; omega) hB1.size).mono fun v w' ⟨q1, ⟨r, q2, q3⟩, q4⟩ => ⟨.inr trivial, ?_, q1, ?_⟩
          · have := hO.out.blk_lt g2 hg2
            omega
          · exact hB1.grown q2 hB1.size (fun g2 hg2 => hO.out.blk_base g2 (q3 g2 hg2))
          · obtain ⟨a', c1, e, -⟩ := hx
            exact ⟨a', c1, e⟩
        · intro c' vs wq ac hC hpast he
          have h3 : ac.tmps.getD 30 undef = vs 19 := (he (.tmp 30) (by simp [Op.operands])).trans (by kernel_rfl)
          unfold execOp
          simp only [show ac.eval (.tmp 30) = vs 19 from h3, Sem.run_pure]
      · intro vs V hC hfn hf
        have e20 := hfn 20 19 _ (by decide) rfl
        obtain ⟨hBV, hOV, -⟩ := hC
        obtain ⟨a', c1, e19, hTV⟩ := hOV.form
        simp only [putL, Lv.val, Act.put, List.setIfInBounds_toArray, List.set_cons_succ, List.set_cons_zero]
        rw [show vs 20 = vs 19 from e20]
        rw [e19] at hOV ⊢
        go_wp2_with fail
        go_roundw
        case rel =>
          have hT : l.take (i + 1) = l.take i ++ [⟨k, y, bb⟩] := by
            rw [List.take_succ_eq_append_getElem hlt]
            have := ht.out
            rw [List.getElem?_eq_getElem hlt] at this
            rw [Option.some.inj this]
          exact ⟨i + 1, _, c1, a', hlt, by go_num, rfl, by show _ = _; simp; omega, by show OwnToks _ _ _ _; rw [hT]; exact hOV, hBV⟩
        case measure => simp [intOf]; omega
    · obtain rfl : i = l.length := by omega
      have hneg : ¬ (l.length : Int) < (l.length : Int) := by omega
      obtain rfl : n = l.length := hn.out
      have hO := hO.out
      rw [List.take_length] at hO
      go_wp2_with fail
      go_ret
      exact ⟨ga, c, rfl, hO, hB⟩
end Go.Proofs.YtaabcllghniaoaaDoor
