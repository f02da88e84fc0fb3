/- What the walks of stage 7 lean on: rows of slices, halves of 64 bytes, copies, in regions that draw their order. -/
import Derived.Test.YtgibllaifnnfkaaDoorSG0
import Derived.Test.YtgibllaifnnfkaaDoorEA
import Derived.Test.YtgibllaifnnfkaaDoorZ4
namespace Go.Proofs.YtgibllaifnnfkaaDoor
open Go Go.RowKit
def pick2 {α : Type} (a b : α) : Nat → α
  | 0 => a
  | _ => b
theorem B64_lo2 {w : World} {b lo hi : Nat} {t : TypeId} (h : lo < R256) (ho : Own w b (B64 (bdig (two lo hi))) t) : w.rangeAt b 0 (B32 (bdig lo)).toList := by
  have := B64_lo ho
  rwa [two_lo h] at this
theorem B64_hi2 {w : World} {b lo hi : Nat} {t : TypeId} (h : lo < R256) (ho : Own w b (B64 (bdig (two lo hi))) t) : w.rangeAt b 32 (B32 (bdig hi)).toList := by
  have := B64_hi ho
  rwa [two_hi h] at this
theorem bytes_lo2 {w : World} {b lo hi : Nat} {t : TypeId} (h : lo < R256) (ho : Own w b (B64 (bdig (two lo hi))) t) : H.BytesV w (some ⟨b, 0, none⟩) 32 64 (by32 lo) := bytes_at (by decide) (by decide) (B64_lo2 h ho)
theorem bytes_hi2 {w : World} {b lo hi : Nat} {t : TypeId} (h : lo < R256) (ho : Own w b (B64 (bdig (two lo hi))) t) : H.BytesV w (some ⟨b, 32, none⟩) 32 32 (by32 hi) := bytes_at (Nat.le_refl _) (by decide) (B64_hi2 h ho)
theorem B32_len7 (f : Nat → Nat) : (Tryd.prog.info? 22).map (·.size) = some (B32 f).toList.length := by rw [infoB32, Array.length_toList, B32_size]
theorem B32_len0 (f : Nat → Nat) : (B32 f).toList.length = 32 := by rw [Array.length_toList, B32_size]
theorem B32_ones (f : Nat → Nat) : ∀ v ∈ (B32 f).toList, v.oneCell' = true := fun v hv => by
  unfold B32 at hv
  obtain ⟨i, -, rfl⟩ := List.mem_map.1 hv
  rfl
theorem rows1 {w : World} {a : Option Addr} {n c : Nat} {m : List Int} (h : H.BytesV w a n c m) (hc : a = none → c = 0) : H.RowsV (w.alloc (.cells #[.slice a n c] 23)) (some ⟨w.heap.size, 0, none⟩) 1 1 [m] := by
  have e := h.1
  subst e
  exact H.rowsV_new w [(a, c, m)] (fun p hp => by
    obtain rfl := List.mem_singleton.1 hp
    exact ⟨h, hc⟩) (show 1 ≤ maxLen by decide)
theorem rows2 {w : World} {a a2 : Option Addr} {n c n2 c2 : Nat} {m m2 : List Int} (h : H.BytesV w a n c m) (hc : a = none → c = 0) (h2 : H.BytesV w a2 n2 c2 m2) (hc2 : a2 = none → c2 = 0) : H.RowsV (w.alloc (.cells #[.slice a n c, .slice a2 n2 c2] 23)) (some ⟨w.heap.size, 0, none⟩) 2 2 [m, m2] := by
  have e := h.1
  subst e
  have e := h2.1
  subst e
  exact H.rowsV_new w [(a, c, m), (a2, c2, m2)] (fun p hp => by
    simp only [List.mem_cons, List.not_mem_nil, or_false] at hp
    rcases hp with rfl | rfl
    · exact ⟨h, hc⟩
    · exact ⟨h2, hc2⟩) (show 2 ≤ maxLen by decide)
theorem rows3 {w : World} {a a2 a3 : Option Addr} {n c n2 c2 n3 c3 : Nat} {m m2 m3 : List Int} (h : H.BytesV w a n c m) (hc : a = none → c = 0) (h2 : H.BytesV w a2 n2 c2 m2) (hc2 : a2 = none → c2 = 0) (h3 : H.BytesV w a3 n3 c3 m3) (hc3 : a3 = none → c3 = 0) : H.RowsV (w.alloc (.cells #[.slice a n c, .slice a2 n2 c2, .slice a3 n3 c3] 23)) (some ⟨w.heap.size, 0, none⟩) 3 3 [m, m2, m3] := by
  have e := h.1
  subst e
  have e := h2.1
  subst e
  have e := h3.1
  subst e
  exact H.rowsV_new w [(a, c, m), (a2, c2, m2), (a3, c3, m3)] (fun p hp => by
    simp only [List.mem_cons, List.not_mem_nil, or_false] at hp
    rcases hp with rfl | rfl | rfl
    · exact ⟨h, hc⟩
    · exact ⟨h2, hc2⟩
    · exact ⟨h3, hc3⟩) (show 3 ≤ maxLen by decide)
theorem rows_bel {w w' : World} {v : Value} {n : Nat} {ms : List (List Int)} (h : ∃ aq, v = .slice aq n n ∧ H.RowsV w aq n n ms) (hB : Below w.heap.size w w') : ∃ aq, v = .slice aq n n ∧ H.RowsV w' aq n n ms := by
  obtain ⟨aq, e, hr⟩ := h
  exact ⟨aq, e, hr.below hB⟩
theorem txt_bel {w w' : World} {v : Value} {l : List Int} (h : ∃ aq cq, v = .slice aq l.length cq ∧ Txt w aq cq l) (hB : Below w.heap.size w w') : ∃ aq cq, v = .slice aq l.length cq ∧ Txt w' aq cq l := by
  obtain ⟨aq, cq, e, hr⟩ := h
  exact ⟨aq, cq, e, hr.below hB⟩
theorem dept {ops : Array Oper} {a0 : Act} {F : Nat → Value → Prop} {J : (Nat → Bool) → (Nat → Value) → World → Prop} {L : Nat → Bool} {vs : Nat → Value} {a : Act} {w : World} (h : Told ops a0 F J L vs a w) (k : Nat) {o : Oper} (ho : ops[k]? = some o) (hk : L k = true) (j : Nat)
    (hB : (o.after.toList.any fun e => e.on == j && Region.binds .any e) = true) : L j = true := dep (fun e he hb => h.closed k o ho hk e he hb) j hB
theorem own_next (w : World) (A A' : Array Value) (t t' : TypeId) : Own ((w.alloc (.cells A t)).alloc (.cells A' t')) (w.heap.size + 1) A' t' := by
  have := own_new (w.alloc (.cells A t)) A' t'
  rwa [World.size_alloc] at this
/-- One block more, in a plain region. -/
theorem wpList_alloc7 {P : Program} {ops : Array Oper} {rest : List Oper} {op : Oper} {a : Act} {w : World} {Q : Exit → Act → World → Prop} (hgd : op.guard = none) (t : TypeId) (ho : op.op = .alloc t) {Z : Array Value} (hz : ∀ w, (zeroValue t).run P w = .ok (.agg Z) w)
    (h : wpList P ops Q rest (a.put op.dst (.pointer (some ⟨w.heap.size, 0, none⟩))) (w.alloc (.cells Z t))) : wpList P ops Q (op :: rest) a w :=
  wpList_plain hgd fun _ hK => by
    unfold Oper.wp
    simp only [execOp, ho]
    go_simp
    exact hK _ _ h
/-- Two blocks that are made and written, in a plain region. -/
theorem wpList_news2 {P : Program} {ops : Array Oper} {rest : List Oper} {op1 op2 op3 op4 : Oper} {a : Act} {w : World} {Q : Exit → Act → World → Prop} {l : List (Nat × Array Value × TypeId)} {w0 : World} (hK : Kp l w0 w) (t1 t2 : TypeId) (p1 p2 x1 x2 : Nat) {A1 A2 Z1 Z2 : Array Value}
    (h1 : op1.guard = none) (o1 : op1.op = .alloc t1) (d1 : op1.dst = some p1) (h2 : op2.guard = none) (o2 : op2.op = .alloc t2) (d2 : op2.dst = some p2) (h3 : op3.guard = none) (o3 : op3.op = .store t1 (.tmp p1) (.tmp x1)) (d3 : op3.dst = none) (h4 : op4.guard = none) (o4 : op4.op = .store t2 (.tmp p2) (.tmp x2)) (d4 : op4.dst = none)
    (z1 : ∀ w, (zeroValue t1).run P w = .ok (.agg Z1) w) (z2 : ∀ w, (zeroValue t2).run P w = .ok (.agg Z2) w) (l1 : p1 < a.tmps.size) (l2 : p2 < a.tmps.size) (hne : p2 ≠ p1) (n1 : p1 ≠ x1) (n2 : p2 ≠ x1) (n3 : p1 ≠ x2) (n4 : p2 ≠ x2) (hx1 : a.tmps.getD x1 undef = .agg A1) (hx2 : a.tmps.getD x2 undef = .agg A2)
    (s1 : A1.size = Z1.size) (s2 : A2.size = Z2.size) (i1 : (P.info? t1).map (·.size) = some A1.size) (i2 : (P.info? t2).map (·.size) = some A2.size) (c1 : A1.all (·.oneCell') = true) (c2 : A2.all (·.oneCell') = true)
    (h : ∀ g1 g2 w', w0.heap.size ≤ g1 → w0.heap.size ≤ g2 → g1 ≠ g2 → (∀ p ∈ l, p.1 ≠ g1) → (∀ p ∈ l, p.1 ≠ g2) → Kp ((g2, A2, t2) :: (g1, A1, t1) :: l) w0 w' → wpList P ops Q rest ((a.put (some p1) (.pointer (some ⟨g1, 0, none⟩))).put (some p2) (.pointer (some ⟨g2, 0, none⟩))) w') :
    wpList P ops Q (op1 :: op2 :: op3 :: op4 :: rest) a w := by
  have hlt := fun p (hp : p ∈ l) => (hK.1 p hp).lt
  have k2 := (hK.alloc Z1 t1).alloc Z2 t2
  refine wpList_alloc7 h1 t1 o1 z1 (wpList_alloc7 h2 t2 o2 z2 ?_)
  rw [World.size_alloc] at k2 ⊢
  rw [d1, d2]
  have hw := hK.2.size
  generalize (w.alloc (.cells Z1 t1)).alloc (.cells Z2 t2) = W at *
  generalize w.heap.size = g at *
  have e1 : ((a.put (some p1) (.pointer (some ⟨g, 0, none⟩))).put (some p2) (.pointer (some ⟨g + 1, 0, none⟩))).tmps.getD p1 undef = .pointer (some ⟨g, 0, none⟩) := by rw [getD_put_other _ _ _ _ hne, getD_put_same _ _ _ l1]
  have e2 : ((a.put (some p1) (.pointer (some ⟨g, 0, none⟩))).put (some p2) (.pointer (some ⟨g + 1, 0, none⟩))).tmps.getD p2 undef = .pointer (some ⟨g + 1, 0, none⟩) := getD_put_same _ _ _ (by rw [size_put]; exact l2)
  have e3 : ((a.put (some p1) (.pointer (some ⟨g, 0, none⟩))).put (some p2) (.pointer (some ⟨g + 1, 0, none⟩))).tmps.getD x1 undef = .agg A1 := by rw [getD_put_other _ _ _ _ n2, getD_put_other _ _ _ _ n1, hx1]
  have e4 : ((a.put (some p1) (.pointer (some ⟨g, 0, none⟩))).put (some p2) (.pointer (some ⟨g + 1, 0, none⟩))).tmps.getD x2 undef = .agg A2 := by rw [getD_put_other _ _ _ _ n4, getD_put_other _ _ _ _ n3, hx2]
  have h' := h g (g + 1)
  generalize (a.put (some p1) (.pointer (some ⟨g, 0, none⟩))).put (some p2) (.pointer (some ⟨g + 1, 0, none⟩)) = b at *
  have k3 : Kp ((g, Z1, t1) :: (g + 1, Z2, t2) :: l) w0 W := ⟨fun p hp => k2.1 p (by simp only [List.mem_cons] at hp ⊢; rcases hp with h | h | h <;> simp [h]), k2.2⟩
  have k4 := Kp.set (A' := A1) k3 (fun p hp => by
    rcases List.mem_cons.1 hp with rfl | hp
    · exact Nat.succ_ne_self g
    · exact Nat.ne_of_lt (hlt p hp)) hw s1
  have k5 : Kp ((g + 1, Z2, t2) :: (g, A1, t1) :: l) w0 (W.setCells g 0 A1.toList) := ⟨fun p hp => k4.1 p (by simp only [List.mem_cons] at hp ⊢; rcases hp with h | h | h <;> simp [h]), k4.2⟩
  have k6 := Kp.set (A' := A2) k5 (fun p hp => by
    rcases List.mem_cons.1 hp with rfl | hp
    · exact Nat.ne_of_lt (Nat.lt_succ_self g)
    · exact Nat.ne_of_lt (Nat.lt_succ_of_lt (hlt p hp))) (Nat.le_succ_of_le hw) s2
  refine wpList_plain h3 fun _ hq => wp_store_own t1 (.tmp p1) (.tmp x1) o3 g A1 e1 e3 (k3.at g Z1 t1 (.head _)) s1 i1 c1 d3 ?_
  have hq' := hq b (W.setCells g 0 A1.toList)
  refine hq' ?_
  refine wpList_plain h4 fun _ hr => wp_store_own t2 (.tmp p2) (.tmp x2) o4 (g + 1) A2 e2 e4 (k5.at (g + 1) Z2 t2 (.head _)) s2 i2 c2 d4 ?_
  exact hr b _ (h' _ hw (Nat.le_succ_of_le hw) (Nat.ne_of_lt (Nat.lt_succ_self g)) (fun p hp => Nat.ne_of_lt (hlt p hp)) (fun p hp => Nat.ne_of_lt (Nat.lt_succ_of_lt (hlt p hp))) k6)
/-- copy, of a row of cells into an own block at a place, in a region that draws its order. -/
theorem wp_copy_at {P : Program} {o : Oper} {a : Act} {w : World} {K : Act → World → Prop} {Q : Exit → Act → World → Prop} (d s : Operand) (dT sT : TypeId)
    (ho : o.op = .call { callee := .builtin .copy, args := #[d, s], argTypes := #[dT, sT] }) (elem : TypeId) (hu : P.underlying dT = some (.slice elem)) (hsz : (P.info? elem).map (·.size) = some 1)
    (g og dLen dCap b ob sLen sCap : Nat) (hd : a.eval d = .slice (some ⟨g, og, none⟩) dLen dCap) (hs : a.eval s = .slice (some ⟨b, ob, none⟩) sLen sCap)
    {A : Array Value} {t : TypeId} (hg : Own w g A t) (cs : List Value) (hS : w.rangeAt b ob cs) (hn : cs.length = Nat.min sLen dLen) (hfit : og + cs.length ≤ A.size) (h1 : ∀ v ∈ cs, v.oneCell' = true)
    (h : K (a.put o.dst (goInt cs.length)) (w.setRow g (A.toList.take og ++ cs ++ A.toList.drop (og + cs.length)).toArray)) : o.wp P a w K Q := by
  have hrun := run_copy_row (P := P) w dT sT o.type elem g og dLen dCap ⟨b, ob, none⟩ sLen sCap A t cs hu hsz hg hn (fun j v hv => by rw [Addr.add_mid]; exact hS j v hv) hfit h1
  unfold Oper.wp
  simp only [List.append_assoc] at h hrun
  simp [execOp, ho, resolve, invoke, builtin, hd, hs, hrun, Result.andThen]
  exact h
theorem toList_at (f : Nat → Nat) (j : Nat) (hj : j < 64) : (B64 f).toList[j]? = some (.int .u8 (f j : Int)) := by
  rw [Array.getElem?_toList]; exact B64_at f j hj
theorem toList_at32 (f : Nat → Nat) (j : Nat) (hj : j < 32) : (B32 f).toList[j]? = some (.int .u8 (f j : Int)) := by
  rw [Array.getElem?_toList]; exact B32_at f j hj
theorem two_byte_lo {x y i : Nat} (hx : x < R256) (hi : i < 32) : bdig (two x y) i = bdig x i := by
  rw [← bdig_lo _ i hi, two_lo hx]
theorem two_byte_hi {x y i : Nat} (hx : x < R256) : bdig (two x y) (32 + i) = bdig y i := by
  rw [← bdig_hi, two_hi hx]
theorem bdig_zero (i : Nat) : bdig 0 i = 0 := by unfold bdig; rw [Nat.zero_div]
theorem join_lo {x : Nat} (hx : x < R256) : ((B64 fun _ => 0).toList.take 0 ++ (B32 (bdig x)).toList ++ (B64 fun _ => 0).toList.drop (0 + (B32 (bdig x)).toList.length)).toArray = B64 (bdig (two x 0)) := by
  apply Array.ext_getElem?
  intro i
  rw [B32_len0, List.take_zero, List.nil_append, Nat.zero_add, List.getElem?_toArray]
  by_cases hi : i < 64
  · rw [B64_at _ i hi]
    by_cases h : i < 32
    · rw [List.getElem?_append_left (by rw [B32_len0]; exact h), toList_at32 _ i h, two_byte_lo hx h]
    · obtain ⟨j, rfl⟩ : ∃ j, i = 32 + j := ⟨i - 32, by omega⟩
      rw [List.getElem?_append_right (by rw [B32_len0]; omega), B32_len0, List.getElem?_drop, toList_at _ _ (by omega), two_byte_hi hx, bdig_zero]
  · rw [List.getElem?_eq_none (by rw [List.length_append, List.length_drop, B32_len0, Array.length_toList, B64_size]; omega), Array.getElem?_eq_none (by rw [B64_size]; omega)]
theorem join_hi {x : Nat} (hx : x < R256) (y : Nat) : ((B64 (bdig (two x 0))).toList.take 32 ++ (B32 (bdig y)).toList ++ (B64 (bdig (two x 0))).toList.drop (32 + (B32 (bdig y)).toList.length)).toArray = B64 (bdig (two x y)) := by
  apply Array.ext_getElem?
  intro i
  have hl : ((B64 (bdig (two x 0))).toList.take 32).length = 32 := by rw [List.length_take, Array.length_toList, B64_size]; rfl
  rw [B32_len0, List.getElem?_toArray]
  by_cases hi : i < 64
  · rw [B64_at _ i hi, List.getElem?_append_left (by rw [List.length_append, hl, B32_len0]; omega)]
    by_cases h : i < 32
    · rw [List.getElem?_append_left (by rw [hl]; exact h), List.getElem?_take, if_pos h, toList_at _ i hi, two_byte_lo hx h, two_byte_lo hx h]
    · obtain ⟨j, rfl⟩ : ∃ j, i = 32 + j := ⟨i - 32, by omega⟩
      rw [List.getElem?_append_right (by rw [hl]; omega), hl, Nat.add_sub_cancel_left, toList_at32 _ j (by omega), two_byte_hi hx]
  · rw [List.getElem?_eq_none (by rw [List.length_append, List.length_append, List.length_drop, hl, B32_len0, Array.length_toList, B64_size]; omega), Array.getElem?_eq_none (by rw [B64_size]; omega)]
theorem join32 (x : Nat) : ((B32 fun _ => 0).toList.take 0 ++ (B32 (bdig x)).toList ++ (B32 fun _ => 0).toList.drop (0 + (B32 (bdig x)).toList.length)).toArray = B32 (bdig x) := by
  rw [B32_len0, List.take_zero, List.nil_append, List.drop_eq_nil_of_le (by rw [B32_len0]; decide), List.append_nil]
/-- What is left when a seed's number is made of 32 bytes: without the three lowest bits and the highest one, with the second highest one. -/
def clamp (a : Nat) : Nat := vb (upd (upd (bdig a) 0 (bdig a 0 / 8 * 8)) 31 (bdig a 31 % 64 + 64)) 32
theorem clamp_bytes (a i : Nat) (hi : i < 32) : bdig (clamp a) i = upd (upd (bdig a) 0 (bdig a 0 / 8 * 8)) 31 (bdig a 31 % 64 + 64) i := by
  unfold clamp
  refine bdig_vb _ 32 (fun j _ => ?_) i hi
  by_cases h : j = 31
  · subst h; rw [upd_same]; omega
  · rw [upd_other _ _ _ _ h]
    by_cases h0 : j = 0
    · subst h0; rw [upd_same]; have := bdig_lt a 0; omega
    · rw [upd_other _ _ _ _ h0]; exact bdig_lt a j
theorem clamp_lt (a : Nat) : clamp a < R256 := by
  rw [R256_pow]
  unfold clamp
  refine vb_lt _ 32 fun j _ => ?_
  by_cases h : j = 31
  · subst h; rw [upd_same]; omega
  · rw [upd_other _ _ _ _ h]
    by_cases h0 : j = 0
    · subst h0; rw [upd_same]; have := bdig_lt a 0; omega
    · rw [upd_other _ _ _ _ h0]; exact bdig_lt a j
theorem B32_clamp (a : Nat) : B32 (upd (upd (bdig a) 0 (bdig a 0 / 8 * 8)) 31 (bdig a 31 % 64 + 64)) = B32 (bdig (clamp a)) := B32_ext fun i hi => (clamp_bytes a i hi).symm
theorem low_bits : ∀ x : Fin 256, bits .andNot .u8 (x.val : Int) 7 = ((x.val / 8 * 8 : Nat) : Int) := by decide +kernel
theorem top_bits : ∀ x : Fin 256, bits .or .u8 (bits .andNot .u8 (x.val : Int) 128) 64 = ((x.val % 64 + 64 : Nat) : Int) := by decide +kernel
theorem top_off : ∀ x : Fin 256, bits .andNot .u8 (x.val : Int) 128 = ((x.val % 128 : Nat) : Int) := by decide +kernel
theorem top_on : ∀ x : Fin 128, bits .or .u8 (x.val : Int) 64 = ((x.val % 64 + 64 : Nat) : Int) := by decide +kernel
end Go.Proofs.YtgibllaifnnfkaaDoor
