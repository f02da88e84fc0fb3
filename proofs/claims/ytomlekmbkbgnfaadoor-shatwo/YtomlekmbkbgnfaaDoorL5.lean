/- The walk of the law ShaTwo. -/
import Derived.Test.YtomlekmbkbgnfaaDoorK3
import Derived.Test.YtomlekmbkbgnfaaDoorK4
namespace Go.Proofs.YtomlekmbkbgnfaaDoor
open Go.RowKit

theorem bytesV_nil (w : World) : BytesV w none 0 0 [] := ⟨rfl, Nat.le_refl _, by decide, fun x hx => by simp at hx, fun hp => absurd hp (by decide)⟩

/-- The values of the last statement's operations, in their order; those not named are true. -/
def val (s t : Nat) (m m2 : List Int) (a : Option Addr) (cap : Nat) (a2 : Option Addr) (cap2 : Nat) : Nat → Value
  | 0 => .pointer (some ⟨s, 0, none⟩)
  | 1 => .agg (dig m)
  | 2 => .agg (dig m)
  | 5 => .agg (dig m)
  | 6 => .slice a m.length cap
  | 7 => .agg (dig m)
  | 11 => .pointer (some ⟨t, 0, none⟩)
  | 12 => .agg (dig (m2 ++ m))
  | 14 => .slice a2 m2.length cap2
  | 16 => .slice a m.length cap
  | 18 => .agg (dig (m2 ++ m))
  | 22 => .pointer (some ⟨s, 0, none⟩)
  | 23 => .int .i64 m.length
  | 24 => .slice a m.length cap
  | 25 => .int .i64 m.length
  | 29 => .pointer (some ⟨t, 0, none⟩)
  | 30 => .int .i64 (m.length + m2.length)
  | 31 => .slice a m.length cap
  | 32 => .int .i64 m.length
  | 33 => .slice a2 m2.length cap2
  | 34 => .int .i64 m2.length
  | 35 => .int .i64 (m.length + m2.length)
  | _ => .bool true
/-- The facts of the last statement's operations: two rows are grown, the others are values that are known. -/
def fact (s t : Nat) (m m2 : List Int) (a : Option Addr) (cap : Nat) (a2 : Option Addr) (cap2 : Nat) (B : Nat) : Nat → (Nat → Bool) → Value → World → Prop
  | 13, L, v, w => L 15 = false → OwnBytes w B v []
  | 15, L, v, w => L 17 = false → OwnBytes w B v m2
  | 17, L, v, w => L 15 = true ∧ ∃ x c, v = .slice x (m2 ++ m).length c ∧ BytesV w x (m2 ++ m).length c (m2 ++ m)
  | i, _, v, _ => v = val s t m m2 a cap a2 cap2 i
theorem fact_keep {s t : Nat} {m m2 : List Int} {a : Option Addr} {cap : Nat} {a2 : Option Addr} {cap2 B : Nat} {L : Nat → Bool} {w w' : World} (i : Nat) (hB : Below w.heap.size w w') (j : Nat) (u : Value) (_ : L j = true)
    (h : fact s t m m2 a cap a2 cap2 B j L u w) : fact s t m m2 a cap a2 cap2 B j (fun j => if j = i then true else L j) u w' := by
  have hL : ∀ k, (if k = i then true else L k) = false → L k = false := fun k hk => by split at hk <;> simp_all
  have hL' : ∀ k, L k = true → (if k = i then true else L k) = true := fun k hk => by split <;> simp_all
  unfold fact at *
  split at h
  · exact fun h' => (h (hL _ h')).below hB
  · exact fun h' => (h (hL _ h')).below hB
  · obtain ⟨h1, x, c, h2, h3⟩ := h
    exact ⟨hL' _ h1, x, c, h2, h3.below hB⟩
  · exact h
theorem fact_app1 {s t : Nat} {m m2 : List Int} {a : Option Addr} {cap : Nat} {a2 : Option Addr} {cap2 B : Nat} {L : Nat → Bool} {w w' : World} (hL : L 15 = false) {j : Nat} {u : Value} (hj : L j = true)
    (h : fact s t m m2 a cap a2 cap2 B j L u w) : fact s t m m2 a cap a2 cap2 B j (fun j => if j = 15 then true else L j) u w' := by
  unfold fact at *
  split at h
  · intro h'; simp at h'
  · rw [hL] at hj; cases hj
  · rw [hL] at h; cases h.1
  · exact h
theorem fact_app2 {s t : Nat} {m m2 : List Int} {a : Option Addr} {cap : Nat} {a2 : Option Addr} {cap2 B : Nat} {L : Nat → Bool} {w w' : World} (hL : L 17 = false) (h15 : L 15 = true) {j : Nat} {u : Value} (hj : L j = true)
    (h : fact s t m m2 a cap a2 cap2 B j L u w) : fact s t m m2 a cap a2 cap2 B j (fun j => if j = 17 then true else L j) u w' := by
  unfold fact at *
  split at h
  · intro h'; simp [h15] at h'
  · intro h'; simp at h'
  · rw [hL] at hj; cases hj
  · exact h
theorem wp_load_own {P : Program} {op : Oper} {a : Act} {w : World} {K : Act → World → Prop} {Q : Exit → Act → World → Prop} (ty : TypeId) (x : Operand) (ho : op.op = .load ty x)
    (b : Nat) (hx : a.eval x = .pointer (some ⟨b, 0, none⟩)) (A : Array Value) (d : TypeDesc) (t : TypeId) (hc : Own w b A t)
    (hu : P.underlying ty = some d) (hd : d.isRow = true) (hi : (P.info? ty).map (·.size) = some A.size) (h : K (a.put op.dst (.agg A)) w) : op.wp P a w K Q := by
  unfold Oper.wp execOp
  have := run_loadVar_mid w b 0 ty A.toList d hc.range hu hd (by simpa using hi)
  simp only [ho, hx, Instr.loadAt, Instr.sureAddr, Sem.run_bind, Sem.run_pure, Result.andThen_ok, this, Oper.upon]
  exact h
theorem wp_append_bytes {w : World} {o : Oper} {a : Act} {K : Act → World → Prop} {Q : Exit → Act → World → Prop} (s x : Operand)
    (ho : o.op = .call { callee := .builtin .append, args := #[s, x], argTypes := #[22, 22] })
    (base : Nat) (v : Value) (xs : List Int) (hs : a.eval s = v) (hown : OwnBytes w base v xs)
    (sa : Option Addr) (len cap : Nat) (m : List Int) (hx : a.eval x = .slice sa len cap) (hm : BytesV w sa len cap m) (hn : sa = none → cap = 0)
    (hl : xs.length + m.length ≤ 1099511627776) (hbase : base ≤ w.heap.size)
    (h : ∀ v' w', OwnBytes w' base v' (xs ++ m) → w.grownBy w' v.ownBlock → K (a.put o.dst v') w') : o.wp Tryd.prog a w K Q := by
  obtain ⟨i, hi, hz, hsize, hby⟩ : ∃ i, Tryd.prog.info? 5 = some i ∧ i.zero = some (.int .u8 0) ∧ i.size = 1 ∧ i.bytes = 1 := by
    have := info5
    cases hq : Tryd.prog.info? 5 with
    | none => simp [hq] at this
    | some i => exact ⟨i, rfl, by simp [hq] at this; exact this⟩
  cases sa with
  | none =>
    obtain rfl := hn rfl
    have h0 : len = 0 := by
      rcases Nat.eq_zero_or_pos len with h | h
      · exact h
      · obtain ⟨b, off, e, _⟩ := hm.2.2.2.2 h; cases e
    subst h0
    have : m = [] := List.eq_nil_of_length_eq_zero hm.1.symm
    subst this
    have hrun := run_append_owned_none (P := Tryd.prog) (w := w) base 22 o.type 5 i 1 Tryd.underlying22 hi v xs.length (u8s xs) hown
    unfold Oper.wp
    simp [execOp, ho, resolve, invoke, builtin, hs, hx, hrun, Result.andThen]
    exact h v w (by rw [List.append_nil]; exact hown) ⟨rfl, rfl, rfl, Nat.le_refl _, fun _ _ _ => rfl⟩
  | some ad =>
    obtain ⟨v', w', hr, h2, h3, _, _⟩ := run_append_own_at (P := Tryd.prog) w base 22 o.type 5 i (.int .u8 0) 1 1 Tryd.underlying22 hi hz hsize hby rfl (by decide) v xs.length (u8s xs) hown ad len cap (u8s m) (by rw [u8s, List.length_map, ← hm.1]; omega) (fun j u hu => by
      have hj : j < m.length := by
        have := (List.getElem?_eq_some_iff.1 hu).1
        simpa [u8s] using this
      obtain ⟨b, off, e, hr⟩ := hm.2.2.2.2 (by rw [hm.1]; omega)
      simp only [Option.some.injEq] at e
      rw [e, Addr.add_mid]; exact hr j u hu) (u8s_one _) (by rw [hm.1]; unfold maxLen; omega) (by rw [hm.1]; omega) hbase
    unfold Oper.wp execOp
    simp only [ho, resolve, invoke, builtin, Sem.run_bind, Sem.run_pure, Result.andThen_ok, List.map_toArray, List.map_cons, List.map_nil, hs, hx, hr]
    refine h v' w' ?_ h3
    have e : len = m.length := hm.1
    subst e
    unfold OwnBytes
    rw [List.length_append, u8s, List.map_append]; exact h2
theorem dep {after : Array Edge} {L : Nat → Bool} (hd : ∀ e ∈ after, Region.binds .any e = true → L e.on = true) (k : Nat) (h : (after.toList.any fun e => e.on == k && Region.binds .any e) = true) : L k = true := by
  obtain ⟨e, he, h1⟩ := List.any_eq_true.1 h
  simp only [Bool.and_eq_true, beq_iff_eq] at h1
  rw [← h1.1]; exact hd e (by simpa using he) h1.2
theorem slot {ops : Array Oper} {a0 : Act} {C : World → Prop} {F : Nat → (Nat → Bool) → Value → World → Prop} {L : Nat → Bool} {a : Act} {w : World} (h : Facts ops a0 C F L a w) (s : Nat) (hB : (ops.toList.all fun o => o.dst != some s) = true) : a.tmps.getD s undef = a0.tmps.getD s undef := by
  refine h.old s fun i o ho e => ?_
  have := List.all_eq_true.1 hB o (by rw [List.mem_iff_getElem?]; exact ⟨i, by simpa using ho⟩)
  simp [e] at this
theorem step_of {P : Program} {ops : Array Oper} {Q : Exit → Act → World → Prop} {C : World → Prop} {F : Nat → (Nat → Bool) → Value → World → Prop} {L : Nat → Bool} {a : Act} {w : World} {i : Nat} {o : Oper}
    (hw : Region.wanted o (yielded ops a.tmps) = true)
    (h : ∀ K : Act → World → Prop, (∀ v w', C w' → F i (fun j => if j = i then true else L j) v w' → (∀ j u, L j = true → F j L u w → F j (fun j => if j = i then true else L j) u w') → K (a.put o.dst v) w') → o.wp P a w K Q) :
    Region.wanted o (yielded ops a.tmps) = true ∧ o.wp P a w (fun a' w' => ∃ v, a' = a.put o.dst v ∧ C w' ∧ F i (fun j => if j = i then true else L j) v w' ∧ ∀ j u, L j = true → F j L u w → F j (fun j => if j = i then true else L j) u w') Q :=
  ⟨hw, h _ fun v _ h1 h2 h3 => ⟨v, rfl, h1, h2, h3⟩⟩
set_option maxRecDepth 100000 in
set_option maxHeartbeats 4000000 in
theorem two_any (a : Option Addr) (len cap : Nat) (m : List Int) (a2 : Option Addr) (len2 cap2 : Nat) (m2 : List Int) (w : World) (hm : BytesV w a len cap m) (hcap : a = none → cap = 0) (hm2 : BytesV w a2 len2 cap2 m2) (hcap2 : a2 = none → cap2 = 0) (hT : Tabs w) :
    Calls Tryd.prog 7 #[.slice a len cap, .slice a2 len2 cap2] w fun e w' => e = .returned (.bool true) ∧ Below w.heap.size w w' := by
  by_cases hlen : 400 < len
  · have hi : (400 : Int) < (len : Int) := by omega
    go_enter Tryd.func7, Tryd.ntmps7
    go_wp2_with fail
    go_ret
    exact ⟨rfl, Below.refl _ _⟩
  by_cases hlen2 : 400 < len2
  · have hi : ¬ (400 : Int) < (len : Int) := by omega
    have hi2 : (400 : Int) < (len2 : Int) := by omega
    go_enter Tryd.func7, Tryd.ntmps7
    go_wp2_with fail
    go_ret
    exact ⟨rfl, Below.refl _ _⟩
  · have hi : ¬ (400 : Int) < (len : Int) := by omega
    have hi2 : ¬ (400 : Int) < (len2 : Int) := by omega
    have hl1 : len ≤ 400 := by omega
    have hl2 : len2 ≤ 400 := by omega
    have hlm : len = m.length := hm.1
    have hlm2 : len2 = m2.length := hm2.1
    subst hlm hlm2
    clear hlen hlen2
    go_enter Tryd.func7, Tryd.ntmps7
    go_wp2_with fail
    refine (new_any _).mono ?_
    rintro e w1 ⟨rfl, hS1, hb1, hlt1⟩
    go_wp2_with fail
    refine (new_any _).mono ?_
    rintro e w2 ⟨rfl, hS2, hb2, hlt2⟩
    have hS1' := hS1.below hb2 hlt1
    have hb12 := bel hb1 hb2
    have hgs : 1 < w.heap.size := hT.1.1
    have hgt : 1 < w1.heap.size := Nat.lt_of_lt_of_le hgs hb1.size
    have hne : w.heap.size ≠ w1.heap.size := by omega
    generalize w1.heap.size = t at *
    clear hS1 hb1 hb2
    obtain ⟨s, Hs⟩ : ∃ s, Hid (s = w.heap.size) := ⟨_, rfl⟩
    have hsz : w.heap.size ≤ s := by rw [Hs.out]; exact Nat.le_refl _
    rw [← Hs.out] at hS1' hgs hne hlt1
    have htz : w.heap.size ≤ t := by omega
    rw [show (some ⟨w.heap.size, 0, none⟩ : Option Addr) = some ⟨s, 0, none⟩ from by rw [Hs.out]]
    clear Hs
    go_wp2_with fail
    refine (sumM_any s [] _ hS1' (hT.below hb12) (by decide)).mono ?_
    rintro e w3 ⟨rfl, hb3⟩
    rw [show (u8s (digest [])).toArray = dig [] from rfl]
    have hS3 := hS1'.below hb3 hS1'.lt
    have hSt3 := hS2.below hb3 hS2.lt
    have hb13 := bel hb12 hb3
    clear hS1' hS2 hb3 hb12 hlt2
    go_wp2_with fail
    refine (sum_any none 0 0 [] _ (bytesV_nil _) (hT.below hb13) (by decide)).mono ?_
    rintro e w4 ⟨rfl, hb4⟩
    rw [show (u8s (digest [])).toArray = dig [] from rfl]
    have hS4 := hS3.below hb4 hS3.lt
    have hSt4 := hSt3.below hb4 hSt3.lt
    have hb14 := bel hb13 hb4
    clear hS3 hSt3 hb4 hb13
    have e0 := dig_eq []
    go_wp2_with fail
    refine (len_any s [] _ hS4).mono ?_
    rintro e w5 ⟨rfl, rfl⟩
    clear e0
    go_wp2_with fail
    refine (write_any s [] m _ _ _ _ hS4 (hm.slice hb14 hsz) (hT.below hb14) hgs (by simp; omega)).mono ?_
    rintro e w6 ⟨rfl, hS6, hg6⟩
    rw [List.nil_append] at hS6
    have hb6 := belg hb14 hg6 hsz
    have hSt6 := hSt4.grown hg6 (Ne.symm hne)
    clear hS4 hSt4 hb14 hg6
    go_wp2_with fail
    refine (write_any t [] m2 _ _ _ _ hSt6 (hm2.slice hb6 htz) (hT.below hb6) hgt (by simp; omega)).mono ?_
    rintro e w7 ⟨rfl, hSt7, hg7⟩
    rw [List.nil_append] at hSt7
    have hb7 := belg hb6 hg7 htz
    have hS7 := hS6.grown hg7 hne
    clear hS6 hSt6 hb6 hg7
    go_wp2_with fail
    refine (sumM_any s m _ hS7 (hT.below hb7) (by omega)).mono ?_
    rintro e w8 ⟨rfl, hb78⟩
    rw [show (u8s (digest m)).toArray = dig m from rfl]
    have hb8 := bel hb7 hb78
    have hS8 := hS7.below hb78 hS7.lt
    have hSt8 := hSt7.below hb78 hSt7.lt
    clear hb78 hS7 hSt7 hb7
    go_upto_region 9 with (refine wpList_store_new (by rfl) 25 (.tmp 7) (.tmp 42) (by rfl) _ (dig m) (by rfl) (by rfl) (dig_info _) (by rw [dig_size]; rfl) (dig_one _) (by rfl) ?_)
    have oX := own_new w8 (dig m) 25
    have hb9 := hb8.alloc hb8.size (.cells (dig m) 25)
    have hS9 := hS8.below ((Below.refl w8.heap.size w8).alloc (Nat.le_refl _) (.cells (dig m) 25)) hS8.lt
    have hSt9 := hSt8.below ((Below.refl w8.heap.size w8).alloc (Nat.le_refl _) (.cells (dig m) 25)) hSt8.lt
    have hxs : w8.heap.size ≠ s := Ne.symm (Nat.ne_of_lt hS8.lt)
    have hxt : w8.heap.size ≠ t := Ne.symm (Nat.ne_of_lt hSt8.lt)
    generalize w8.alloc (.cells (dig m) 25) = w9 at *
    generalize w8.heap.size = x at *
    clear hS8 hSt8 hb8
    go_wp2_with fail
    refine (write_any t m2 m _ _ _ _ hSt9 (hm.slice hb9 htz) (hT.below hb9) hgt (by omega)).mono ?_
    rintro e W ⟨rfl, hSt, hg10⟩
    have hb := belg hb9 hg10 htz
    have hS := hS9.grown hg10 hne
    have oX := oX.grown hg10 hxt
    clear hS9 hSt9 hb9 hg10
    have hTW := hT.below hb
    have HX := show Hid _ from oX
    have HSS := show Hid _ from hS
    have HST := show Hid _ from hSt
    clear oX hS hSt hlt1
    have e1 := dig_eq m
    have e2 := dig_eq (m2 ++ m)
    have hwr : IntKind.i64.wrap ((m.length : Int) + (m2.length : Int)) = (m.length : Int) + (m2.length : Int) := by rw [IntKind.wrap_i64]; omega
    have HWR := show Hid _ from hwr
    clear hwr
    go_wp2_with fail
    refine wp_region_facts (by kernel_rfl) (fun i o ho => (plainB_spec (n := 87) (by kernel_rfl) i o ho).1) (fun i o ho => (plainB_spec (n := 87) (by kernel_rfl) i o ho).2.1) (fun i j o o' ho ho' e => (plainB_spec (n := 87) (by kernel_rfl) i o ho).2.2 j o' ho' e)
      (fun w' => Below W.heap.size W w') (fact s t m m2 a cap a2 cap2 W.heap.size) ((Below.refl _ _).drew) ?_ ?_
    · intro L ac wc i o hF hL ho hd
      rcases i with _ | _ | _ | _ | _ | _ | _ | _ | _ | _ | _ | _ | _ | _ | _ | _ | _ | _ | _ | _ | _ | _ | _ | _ | _ | _ | _ | _ | _ | _ | _ | _ | _ | _ | _ | _ | _ | _ | _ | _ | _ | _ | i
      · obtain rfl := Option.some.inj ho
        have f5 : ac.tmps.getD 5 undef = .pointer (some ⟨s, 0, none⟩) := slot hF 5 (by kernel_rfl)
        refine step_of (wanted_free rfl) ?_
        intro K hK
        unfold Oper.wp
        go_simp
        exact hK _ _ hF.cls rfl (fact_keep 0 (Below.refl _ _))
      · obtain rfl := Option.some.inj ho
        have f46 : ac.tmps.getD 46 undef = .pointer (some ⟨s, 0, none⟩) := hF.fact 0 _ _ rfl rfl (dep hd 0 (by kernel_rfl))
        refine step_of (wanted_free rfl) ?_
        intro K hK
        unfold Oper.wp
        go_simp
        refine (sumM_any s m _ (ShaAt.below (show ShaAt W s m from HSS.out) hF.cls (ShaAt.lt (show ShaAt W s m from HSS.out))) (hTW.below hF.cls) (by omega)).mono ?_
        rintro e w' ⟨rfl, hB⟩
        exact hK _ _ (bel hF.cls hB) rfl (fact_keep 1 hB)
      · obtain rfl := Option.some.inj ho
        have f7 : ac.tmps.getD 7 undef = .pointer (some ⟨x, 0, none⟩) := slot hF 7 (by kernel_rfl)
        refine step_of (wanted_free rfl) ?_
        intro K hK
        exact wp_load_own 25 (.tmp 7) rfl x f7 (dig m) _ 25 (Own.below (show Own W x (dig m) 25 from HX.out) hF.cls (Own.lt (show Own W x (dig m) 25 from HX.out))) Tryd.underlying25 rfl (dig_info _) (hK _ _ hF.cls rfl (fact_keep 2 (Below.refl _ _)))
      · obtain rfl := Option.some.inj ho
        have f47 : ac.tmps.getD 47 undef = .agg (dig m) := hF.fact 1 _ _ rfl rfl (dep hd 1 (by kernel_rfl))
        have f48 : ac.tmps.getD 48 undef = .agg (dig m) := hF.fact 2 _ _ rfl rfl (dep hd 2 (by kernel_rfl))
        refine step_of (wanted_free rfl) ?_
        intro K hK
        unfold Oper.wp
        go_simp
        exact hK _ _ hF.cls rfl (fact_keep 3 (Below.refl _ _))
      · obtain rfl := Option.some.inj ho
        have f49 : ac.tmps.getD 49 undef = .bool true := hF.fact 3 _ _ rfl rfl (dep hd 3 (by kernel_rfl))
        refine step_of (wanted_free rfl) ?_
        intro K hK
        unfold Oper.wp
        go_simp
        exact hK _ _ hF.cls rfl (fact_keep 4 (Below.refl _ _))
      · obtain rfl := Option.some.inj ho
        have f7 : ac.tmps.getD 7 undef = .pointer (some ⟨x, 0, none⟩) := slot hF 7 (by kernel_rfl)
        have fg : ac.tmps.getD 50 undef = .bool true := hF.fact 4 _ _ rfl rfl (dep hd 4 (by kernel_rfl))
        refine step_of (wanted_true (g := 4) rfl rfl rfl fg) ?_
        intro K hK
        exact wp_load_own 25 (.tmp 7) rfl x f7 (dig m) _ 25 (Own.below (show Own W x (dig m) 25 from HX.out) hF.cls (Own.lt (show Own W x (dig m) 25 from HX.out))) Tryd.underlying25 rfl (dig_info _) (hK _ _ hF.cls rfl (fact_keep 5 (Below.refl _ _)))
      · obtain rfl := Option.some.inj ho
        have f0 : ac.tmps.getD 0 undef = .slice a m.length cap := slot hF 0 (by kernel_rfl)
        have fg : ac.tmps.getD 50 undef = .bool true := hF.fact 4 _ _ rfl rfl (dep hd 4 (by kernel_rfl))
        refine step_of (wanted_true (g := 4) rfl rfl rfl fg) ?_
        intro K hK
        unfold Oper.wp
        go_simp
        exact hK _ _ hF.cls rfl (fact_keep 6 (Below.refl _ _))
      · obtain rfl := Option.some.inj ho
        have f52 : ac.tmps.getD 52 undef = .slice a m.length cap := hF.fact 6 _ _ rfl rfl (dep hd 6 (by kernel_rfl))
        have fg : ac.tmps.getD 50 undef = .bool true := hF.fact 4 _ _ rfl rfl (dep hd 4 (by kernel_rfl))
        refine step_of (wanted_true (g := 4) rfl rfl rfl fg) ?_
        intro K hK
        unfold Oper.wp
        go_simp
        refine (sum_any a m.length cap m _ (hm.below (bel hb hF.cls)) (hTW.below hF.cls) (by omega)).mono ?_
        rintro e w' ⟨rfl, hB⟩
        exact hK _ _ (bel hF.cls hB) rfl (fact_keep 7 hB)
      · obtain rfl := Option.some.inj ho
        have f51 : ac.tmps.getD 51 undef = .agg (dig m) := hF.fact 5 _ _ rfl rfl (dep hd 5 (by kernel_rfl))
        have f53 : ac.tmps.getD 53 undef = .agg (dig m) := hF.fact 7 _ _ rfl rfl (dep hd 7 (by kernel_rfl))
        have fg : ac.tmps.getD 50 undef = .bool true := hF.fact 4 _ _ rfl rfl (dep hd 4 (by kernel_rfl))
        refine step_of (wanted_true (g := 4) rfl rfl rfl fg) ?_
        intro K hK
        unfold Oper.wp
        go_simp
        exact hK _ _ hF.cls rfl (fact_keep 8 (Below.refl _ _))
      · obtain rfl := Option.some.inj ho
        have f50 : ac.tmps.getD 50 undef = .bool true := hF.fact 4 _ _ rfl rfl (dep hd 4 (by kernel_rfl))
        have f54 : ac.tmps.getD 54 undef = .bool true := hF.fact 8 _ _ rfl rfl (dep hd 8 (by kernel_rfl))
        refine step_of (wanted_free rfl) ?_
        intro K hK
        unfold Oper.wp
        go_simp
        exact hK _ _ hF.cls rfl (fact_keep 9 (Below.refl _ _))
      · obtain rfl := Option.some.inj ho
        have f55 : ac.tmps.getD 55 undef = .bool true := hF.fact 9 _ _ rfl rfl (dep hd 9 (by kernel_rfl))
        refine step_of (wanted_free rfl) ?_
        intro K hK
        unfold Oper.wp
        go_simp
        exact hK _ _ hF.cls rfl (fact_keep 10 (Below.refl _ _))
      · obtain rfl := Option.some.inj ho
        have f6 : ac.tmps.getD 6 undef = .pointer (some ⟨t, 0, none⟩) := slot hF 6 (by kernel_rfl)
        have fg : ac.tmps.getD 56 undef = .bool true := hF.fact 10 _ _ rfl rfl (dep hd 10 (by kernel_rfl))
        refine step_of (wanted_true (g := 10) rfl rfl rfl fg) ?_
        intro K hK
        unfold Oper.wp
        go_simp
        exact hK _ _ hF.cls rfl (fact_keep 11 (Below.refl _ _))
      · obtain rfl := Option.some.inj ho
        have f57 : ac.tmps.getD 57 undef = .pointer (some ⟨t, 0, none⟩) := hF.fact 11 _ _ rfl rfl (dep hd 11 (by kernel_rfl))
        have fg : ac.tmps.getD 56 undef = .bool true := hF.fact 10 _ _ rfl rfl (dep hd 10 (by kernel_rfl))
        refine step_of (wanted_true (g := 10) rfl rfl rfl fg) ?_
        intro K hK
        unfold Oper.wp
        go_simp
        refine (sumM_any t (m2 ++ m) _ (ShaAt.below (show ShaAt W t (m2 ++ m) from HST.out) hF.cls (ShaAt.lt (show ShaAt W t (m2 ++ m) from HST.out))) (hTW.below hF.cls) (by rw [List.length_append]; omega)).mono ?_
        rintro e w' ⟨rfl, hB⟩
        exact hK _ _ (bel hF.cls hB) rfl (fact_keep 12 hB)
      · obtain rfl := Option.some.inj ho
        have fg : ac.tmps.getD 56 undef = .bool true := hF.fact 10 _ _ rfl rfl (dep hd 10 (by kernel_rfl))
        refine step_of (wanted_true (g := 10) rfl rfl rfl fg) ?_
        intro K hK
        unfold Oper.wp
        go_simp
        exact hK _ _ (hF.cls.alloc hF.cls.size _) (fun _ => ⟨rfl, .inr ⟨wc.heap.size, 0, #[], rfl, hF.cls.size, own_new wc #[] 5, Nat.le_refl _, by decide, rfl, rfl⟩⟩) (fact_keep 13 ((Below.refl wc.heap.size wc).alloc (Nat.le_refl _) _))
      · obtain rfl := Option.some.inj ho
        have f1 : ac.tmps.getD 1 undef = .slice a2 m2.length cap2 := slot hF 1 (by kernel_rfl)
        have fg : ac.tmps.getD 56 undef = .bool true := hF.fact 10 _ _ rfl rfl (dep hd 10 (by kernel_rfl))
        refine step_of (wanted_true (g := 10) rfl rfl rfl fg) ?_
        intro K hK
        unfold Oper.wp
        go_simp
        exact hK _ _ hF.cls rfl (fact_keep 14 (Below.refl _ _))
      · obtain rfl := Option.some.inj ho
        have f60 : ac.tmps.getD 60 undef = .slice a2 m2.length cap2 := hF.fact 14 _ _ rfl rfl (dep hd 14 (by kernel_rfl))
        have fg : ac.tmps.getD 56 undef = .bool true := hF.fact 10 _ _ rfl rfl (dep hd 10 (by kernel_rfl))
        refine step_of (wanted_true (g := 10) rfl rfl rfl fg) ?_
        intro K hK
        have h13 : OwnBytes wc W.heap.size (ac.tmps.getD 59 undef) [] := hF.fact 13 _ 59 rfl rfl (dep hd 13 (by kernel_rfl)) hL
        refine wp_append_bytes (.tmp 59) (.tmp 60) rfl W.heap.size _ [] rfl h13 a2 m2.length cap2 m2 f60 (hm2.below (bel hb hF.cls)) hcap2 (by simp; omega) hF.cls.size ?_
        intro v1 w1 h1 h2
        refine hK _ _ (hF.cls.grown h2 hF.cls.size (fun g e => h13.base_le e)) (fun _ => h1) (fun j u hj h => ?_)
        exact fact_app1 hL hj h
      · obtain rfl := Option.some.inj ho
        have f0 : ac.tmps.getD 0 undef = .slice a m.length cap := slot hF 0 (by kernel_rfl)
        have fg : ac.tmps.getD 56 undef = .bool true := hF.fact 10 _ _ rfl rfl (dep hd 10 (by kernel_rfl))
        refine step_of (wanted_true (g := 10) rfl rfl rfl fg) ?_
        intro K hK
        unfold Oper.wp
        go_simp
        exact hK _ _ hF.cls rfl (fact_keep 16 (Below.refl _ _))
      · obtain rfl := Option.some.inj ho
        have f62 : ac.tmps.getD 62 undef = .slice a m.length cap := hF.fact 16 _ _ rfl rfl (dep hd 16 (by kernel_rfl))
        have fg : ac.tmps.getD 56 undef = .bool true := hF.fact 10 _ _ rfl rfl (dep hd 10 (by kernel_rfl))
        refine step_of (wanted_true (g := 10) rfl rfl rfl fg) ?_
        intro K hK
        have h15 : OwnBytes wc W.heap.size (ac.tmps.getD 61 undef) m2 := hF.fact 15 _ 61 rfl rfl (dep hd 15 (by kernel_rfl)) hL
        have l15 : L 15 = true := dep hd 15 (by kernel_rfl)
        refine wp_append_bytes (.tmp 61) (.tmp 62) rfl W.heap.size _ m2 rfl h15 a m.length cap m f62 (hm.below (bel hb hF.cls)) hcap (by omega) hF.cls.size ?_
        intro v1 w1 h1 h2
        obtain ⟨x1, c1, rfl, hv1⟩ := h1.form (fun y hy => (List.mem_append.1 hy).elim (hm2.2.2.2.1 y) (hm.2.2.2.1 y))
        refine hK _ _ (hF.cls.grown h2 hF.cls.size (fun g e => h15.base_le e)) ⟨l15, x1, c1, rfl, hv1⟩ (fun j u hj h => ?_)
        exact fact_app2 hL l15 hj h
      · obtain rfl := Option.some.inj ho
        have fg : ac.tmps.getD 56 undef = .bool true := hF.fact 10 _ _ rfl rfl (dep hd 10 (by kernel_rfl))
        refine step_of (wanted_true (g := 10) rfl rfl rfl fg) ?_
        intro K hK
        obtain ⟨_, x1, c1, f63, hv1⟩ : L 15 = true ∧ ∃ x c, ac.tmps.getD 63 undef = .slice x (m2 ++ m).length c ∧ BytesV wc x (m2 ++ m).length c (m2 ++ m) := hF.fact 17 _ 63 rfl rfl (dep hd 17 (by kernel_rfl))
        rw [List.length_append] at f63 hv1
        unfold Oper.wp
        go_simp
        refine (sum_any x1 _ c1 (m2 ++ m) _ hv1 (hTW.below hF.cls) (by rw [List.length_append]; omega)).mono ?_
        rintro e w' ⟨rfl, hB⟩
        exact hK _ _ (bel hF.cls hB) rfl (fact_keep 18 hB)
      · obtain rfl := Option.some.inj ho
        have f58 : ac.tmps.getD 58 undef = .agg (dig (m2 ++ m)) := hF.fact 12 _ _ rfl rfl (dep hd 12 (by kernel_rfl))
        have f64 : ac.tmps.getD 64 undef = .agg (dig (m2 ++ m)) := hF.fact 18 _ _ rfl rfl (dep hd 18 (by kernel_rfl))
        have fg : ac.tmps.getD 56 undef = .bool true := hF.fact 10 _ _ rfl rfl (dep hd 10 (by kernel_rfl))
        refine step_of (wanted_true (g := 10) rfl rfl rfl fg) ?_
        intro K hK
        unfold Oper.wp
        go_simp
        exact hK _ _ hF.cls rfl (fact_keep 19 (Below.refl _ _))
      · obtain rfl := Option.some.inj ho
        have f56 : ac.tmps.getD 56 undef = .bool true := hF.fact 10 _ _ rfl rfl (dep hd 10 (by kernel_rfl))
        have f65 : ac.tmps.getD 65 undef = .bool true := hF.fact 19 _ _ rfl rfl (dep hd 19 (by kernel_rfl))
        refine step_of (wanted_free rfl) ?_
        intro K hK
        unfold Oper.wp
        go_simp
        exact hK _ _ hF.cls rfl (fact_keep 20 (Below.refl _ _))
      · obtain rfl := Option.some.inj ho
        have f66 : ac.tmps.getD 66 undef = .bool true := hF.fact 20 _ _ rfl rfl (dep hd 20 (by kernel_rfl))
        refine step_of (wanted_free rfl) ?_
        intro K hK
        unfold Oper.wp
        go_simp
        exact hK _ _ hF.cls rfl (fact_keep 21 (Below.refl _ _))
      · obtain rfl := Option.some.inj ho
        have f5 : ac.tmps.getD 5 undef = .pointer (some ⟨s, 0, none⟩) := slot hF 5 (by kernel_rfl)
        have fg : ac.tmps.getD 67 undef = .bool true := hF.fact 21 _ _ rfl rfl (dep hd 21 (by kernel_rfl))
        refine step_of (wanted_true (g := 21) rfl rfl rfl fg) ?_
        intro K hK
        unfold Oper.wp
        go_simp
        exact hK _ _ hF.cls rfl (fact_keep 22 (Below.refl _ _))
      · obtain rfl := Option.some.inj ho
        have f68 : ac.tmps.getD 68 undef = .pointer (some ⟨s, 0, none⟩) := hF.fact 22 _ _ rfl rfl (dep hd 22 (by kernel_rfl))
        have fg : ac.tmps.getD 67 undef = .bool true := hF.fact 21 _ _ rfl rfl (dep hd 21 (by kernel_rfl))
        refine step_of (wanted_true (g := 21) rfl rfl rfl fg) ?_
        intro K hK
        unfold Oper.wp
        go_simp
        refine (len_any s m _ (ShaAt.below (show ShaAt W s m from HSS.out) hF.cls (ShaAt.lt (show ShaAt W s m from HSS.out)))).mono ?_
        rintro e w' ⟨rfl, rfl⟩
        exact hK _ _ hF.cls rfl (fact_keep 23 (Below.refl _ _))
      · obtain rfl := Option.some.inj ho
        have f0 : ac.tmps.getD 0 undef = .slice a m.length cap := slot hF 0 (by kernel_rfl)
        have fg : ac.tmps.getD 67 undef = .bool true := hF.fact 21 _ _ rfl rfl (dep hd 21 (by kernel_rfl))
        refine step_of (wanted_true (g := 21) rfl rfl rfl fg) ?_
        intro K hK
        unfold Oper.wp
        go_simp
        exact hK _ _ hF.cls rfl (fact_keep 24 (Below.refl _ _))
      · obtain rfl := Option.some.inj ho
        have f70 : ac.tmps.getD 70 undef = .slice a m.length cap := hF.fact 24 _ _ rfl rfl (dep hd 24 (by kernel_rfl))
        have fg : ac.tmps.getD 67 undef = .bool true := hF.fact 21 _ _ rfl rfl (dep hd 21 (by kernel_rfl))
        refine step_of (wanted_true (g := 21) rfl rfl rfl fg) ?_
        intro K hK
        unfold Oper.wp
        go_simp
        exact hK _ _ hF.cls rfl (fact_keep 25 (Below.refl _ _))
      · obtain rfl := Option.some.inj ho
        have f69 : ac.tmps.getD 69 undef = .int .i64 m.length := hF.fact 23 _ _ rfl rfl (dep hd 23 (by kernel_rfl))
        have f71 : ac.tmps.getD 71 undef = .int .i64 m.length := hF.fact 25 _ _ rfl rfl (dep hd 25 (by kernel_rfl))
        have fg : ac.tmps.getD 67 undef = .bool true := hF.fact 21 _ _ rfl rfl (dep hd 21 (by kernel_rfl))
        refine step_of (wanted_true (g := 21) rfl rfl rfl fg) ?_
        intro K hK
        unfold Oper.wp
        go_simp
        exact hK _ _ hF.cls rfl (fact_keep 26 (Below.refl _ _))
      · obtain rfl := Option.some.inj ho
        have f67 : ac.tmps.getD 67 undef = .bool true := hF.fact 21 _ _ rfl rfl (dep hd 21 (by kernel_rfl))
        have f72 : ac.tmps.getD 72 undef = .bool true := hF.fact 26 _ _ rfl rfl (dep hd 26 (by kernel_rfl))
        refine step_of (wanted_free rfl) ?_
        intro K hK
        unfold Oper.wp
        go_simp
        exact hK _ _ hF.cls rfl (fact_keep 27 (Below.refl _ _))
      · obtain rfl := Option.some.inj ho
        have f73 : ac.tmps.getD 73 undef = .bool true := hF.fact 27 _ _ rfl rfl (dep hd 27 (by kernel_rfl))
        refine step_of (wanted_free rfl) ?_
        intro K hK
        unfold Oper.wp
        go_simp
        exact hK _ _ hF.cls rfl (fact_keep 28 (Below.refl _ _))
      · obtain rfl := Option.some.inj ho
        have f6 : ac.tmps.getD 6 undef = .pointer (some ⟨t, 0, none⟩) := slot hF 6 (by kernel_rfl)
        have fg : ac.tmps.getD 74 undef = .bool true := hF.fact 28 _ _ rfl rfl (dep hd 28 (by kernel_rfl))
        refine step_of (wanted_true (g := 28) rfl rfl rfl fg) ?_
        intro K hK
        unfold Oper.wp
        go_simp
        exact hK _ _ hF.cls rfl (fact_keep 29 (Below.refl _ _))
      · obtain rfl := Option.some.inj ho
        have f75 : ac.tmps.getD 75 undef = .pointer (some ⟨t, 0, none⟩) := hF.fact 29 _ _ rfl rfl (dep hd 29 (by kernel_rfl))
        have fg : ac.tmps.getD 74 undef = .bool true := hF.fact 28 _ _ rfl rfl (dep hd 28 (by kernel_rfl))
        refine step_of (wanted_true (g := 28) rfl rfl rfl fg) ?_
        intro K hK
        unfold Oper.wp
        go_simp
        refine (len_any t (m2 ++ m) _ (ShaAt.below (show ShaAt W t (m2 ++ m) from HST.out) hF.cls (ShaAt.lt (show ShaAt W t (m2 ++ m) from HST.out)))).mono ?_
        rintro e w' ⟨rfl, rfl⟩
        rw [show (((m2 ++ m).length : Nat) : Int) = (m.length : Int) + (m2.length : Int) from by rw [List.length_append]; omega]
        exact hK _ _ hF.cls rfl (fact_keep 30 (Below.refl _ _))
      · obtain rfl := Option.some.inj ho
        have f0 : ac.tmps.getD 0 undef = .slice a m.length cap := slot hF 0 (by kernel_rfl)
        have fg : ac.tmps.getD 74 undef = .bool true := hF.fact 28 _ _ rfl rfl (dep hd 28 (by kernel_rfl))
        refine step_of (wanted_true (g := 28) rfl rfl rfl fg) ?_
        intro K hK
        unfold Oper.wp
        go_simp
        exact hK _ _ hF.cls rfl (fact_keep 31 (Below.refl _ _))
      · obtain rfl := Option.some.inj ho
        have f77 : ac.tmps.getD 77 undef = .slice a m.length cap := hF.fact 31 _ _ rfl rfl (dep hd 31 (by kernel_rfl))
        have fg : ac.tmps.getD 74 undef = .bool true := hF.fact 28 _ _ rfl rfl (dep hd 28 (by kernel_rfl))
        refine step_of (wanted_true (g := 28) rfl rfl rfl fg) ?_
        intro K hK
        unfold Oper.wp
        go_simp
        exact hK _ _ hF.cls rfl (fact_keep 32 (Below.refl _ _))
      · obtain rfl := Option.some.inj ho
        have f1 : ac.tmps.getD 1 undef = .slice a2 m2.length cap2 := slot hF 1 (by kernel_rfl)
        have fg : ac.tmps.getD 74 undef = .bool true := hF.fact 28 _ _ rfl rfl (dep hd 28 (by kernel_rfl))
        refine step_of (wanted_true (g := 28) rfl rfl rfl fg) ?_
        intro K hK
        unfold Oper.wp
        go_simp
        exact hK _ _ hF.cls rfl (fact_keep 33 (Below.refl _ _))
      · obtain rfl := Option.some.inj ho
        have f79 : ac.tmps.getD 79 undef = .slice a2 m2.length cap2 := hF.fact 33 _ _ rfl rfl (dep hd 33 (by kernel_rfl))
        have fg : ac.tmps.getD 74 undef = .bool true := hF.fact 28 _ _ rfl rfl (dep hd 28 (by kernel_rfl))
        refine step_of (wanted_true (g := 28) rfl rfl rfl fg) ?_
        intro K hK
        unfold Oper.wp
        go_simp
        exact hK _ _ hF.cls rfl (fact_keep 34 (Below.refl _ _))
      · obtain rfl := Option.some.inj ho
        have f78 : ac.tmps.getD 78 undef = .int .i64 m.length := hF.fact 32 _ _ rfl rfl (dep hd 32 (by kernel_rfl))
        have f80 : ac.tmps.getD 80 undef = .int .i64 m2.length := hF.fact 34 _ _ rfl rfl (dep hd 34 (by kernel_rfl))
        have fg : ac.tmps.getD 74 undef = .bool true := hF.fact 28 _ _ rfl rfl (dep hd 28 (by kernel_rfl))
        refine step_of (wanted_true (g := 28) rfl rfl rfl fg) ?_
        intro K hK
        unfold Oper.wp
        go_simp
        rw [HWR.out]
        exact hK _ _ hF.cls rfl (fact_keep 35 (Below.refl _ _))
      · obtain rfl := Option.some.inj ho
        have f76 : ac.tmps.getD 76 undef = .int .i64 (m.length + m2.length) := hF.fact 30 _ _ rfl rfl (dep hd 30 (by kernel_rfl))
        have f81 : ac.tmps.getD 81 undef = .int .i64 (m.length + m2.length) := hF.fact 35 _ _ rfl rfl (dep hd 35 (by kernel_rfl))
        have fg : ac.tmps.getD 74 undef = .bool true := hF.fact 28 _ _ rfl rfl (dep hd 28 (by kernel_rfl))
        refine step_of (wanted_true (g := 28) rfl rfl rfl fg) ?_
        intro K hK
        unfold Oper.wp
        go_simp
        exact hK _ _ hF.cls rfl (fact_keep 36 (Below.refl _ _))
      · obtain rfl := Option.some.inj ho
        have f74 : ac.tmps.getD 74 undef = .bool true := hF.fact 28 _ _ rfl rfl (dep hd 28 (by kernel_rfl))
        have f82 : ac.tmps.getD 82 undef = .bool true := hF.fact 36 _ _ rfl rfl (dep hd 36 (by kernel_rfl))
        refine step_of (wanted_free rfl) ?_
        intro K hK
        unfold Oper.wp
        go_simp
        exact hK _ _ hF.cls rfl (fact_keep 37 (Below.refl _ _))
      · obtain rfl := Option.some.inj ho
        have f83 : ac.tmps.getD 83 undef = .bool true := hF.fact 37 _ _ rfl rfl (dep hd 37 (by kernel_rfl))
        refine step_of (wanted_free rfl) ?_
        intro K hK
        unfold Oper.wp
        go_simp
        exact hK _ _ hF.cls rfl (fact_keep 38 (Below.refl _ _))
      · obtain rfl := Option.some.inj ho
        have fg : ac.tmps.getD 84 undef = .bool true := hF.fact 38 _ _ rfl rfl (dep hd 38 (by kernel_rfl))
        refine step_of (wanted_true (g := 38) rfl rfl rfl fg) ?_
        intro K hK
        unfold Oper.wp
        go_simp
        refine (wakes_any _ (hTW.below hF.cls)).mono ?_
        rintro e w' ⟨rfl, hB⟩
        exact hK _ _ (bel hF.cls hB) rfl (fact_keep 39 hB)
      · obtain rfl := Option.some.inj ho
        have f84 : ac.tmps.getD 84 undef = .bool true := hF.fact 38 _ _ rfl rfl (dep hd 38 (by kernel_rfl))
        have f85 : ac.tmps.getD 85 undef = .bool true := hF.fact 39 _ _ rfl rfl (dep hd 39 (by kernel_rfl))
        refine step_of (wanted_free rfl) ?_
        intro K hK
        unfold Oper.wp
        go_simp
        exact hK _ _ hF.cls rfl (fact_keep 40 (Below.refl _ _))
      · obtain rfl := Option.some.inj ho
        have f86 : ac.tmps.getD 86 undef = .bool true := hF.fact 40 _ _ rfl rfl (dep hd 40 (by kernel_rfl))
        refine step_of (wanted_free rfl) ?_
        intro K hK
        unfold Oper.wp
        go_simp
        exact hK _ _ hF.cls rfl (fact_keep 41 (Below.refl _ _))
      · cases ho
    · intro L ac wc hall hF
      have f4 : ac.tmps.getD 4 undef = .bool true := hF.fact 41 _ 4 rfl rfl (hall 41 (by decide))
      go_wp2
      exact bodyPost_ret (results_tmp rfl _ _ _) hF.defers ⟨by rw [f4], bel hb hF.cls⟩
end Go.Proofs.YtomlekmbkbgnfaaDoor
