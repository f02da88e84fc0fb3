/- Of the texts F12: what the card of this claim reaches. -/
import Derived.Test.YtfkcphbbabaefaaDoorXB7
import Derived.Test.YtfkcphbbabaefaaDoorXB10
import Derived.Laws.StructEq
namespace Go.Proofs.YtfkcphbbabaefaaDoor
open Go.RowKit
theorem digs_eq (x y : Nat) (hx : x < R256) (hy : y < R256) : ((dig x 0 : Int) = (dig y 0 : Int) ∧ (dig x 1 : Int) = (dig y 1 : Int) ∧ (dig x 2 : Int) = (dig y 2 : Int) ∧ (dig x 3 : Int) = (dig y 3 : Int)) ↔ x = y := by
  constructor
  · rintro ⟨h0, h1, h2, h3⟩
    rw [← vl_num x hx, ← vl_num y hy]
    refine vl_congr 4 fun i hi => ?_
    rcases i with _ | _ | _ | _ | i
    · exact Int.ofNat.inj h0
    · exact Int.ofNat.inj h1
    · exact Int.ofNat.inj h2
    · exact Int.ofNat.inj h3
    · omega
  · rintro rfl
    exact ⟨rfl, rfl, rfl, rfl⟩
theorem fn_eq (x y : Nat) (hx : x < R256) (hy : y < R256) (w : World) : (Op.equalIn 10000 111 (.agg (numA x)) (.agg (numA y))).run Tryd.prog w = .ok (decide (x = y)) w := by
  have e := digs_eq x y hx hy
  have hst : Tryd.prog.stoodInHeld 111 = false := by kernel_rfl
  rw [run_equalIn_struct w 9999 111 (numA x) (numA y) (by rw [Program.fieldsOf, Tryd.underlying111]) hst]
  unfold Program.fieldsOf
  rw [Tryd.underlying111]
  unfold numA A4
  generalize (dig x 0 : Int) = x0 at *
  generalize (dig x 1 : Int) = x1 at *
  generalize (dig x 2 : Int) = x2 at *
  generalize (dig x 3 : Int) = x3 at *
  generalize (dig y 0 : Int) = y0 at *
  generalize (dig y 1 : Int) = y1 at *
  generalize (dig y 2 : Int) = y2 at *
  generalize (dig y 3 : Int) = y3 at *
  by_cases hxy : x = y
  · obtain ⟨h0, h1, h2, h3⟩ := e.2 hxy
    rw [decide_eq_true hxy]
    subst h0 h1 h2 h3
    clear e hxy
    go_simp
  · rw [decide_eq_false hxy]
    have hn := fun h => hxy (e.1 h)
    clear e hxy
    go_simp
    exact fun h0 h1 h2 h3 => hn ⟨h0, h1, h2, h3⟩
def valSame (x y : Nat) : Nat → Value
  | 0 => .agg (numA (x))
  | 1 => .agg (numA (x % pp))
  | 2 => .agg (numA (y))
  | 3 => .agg (numA (y % pp))
  | 4 => .bool (decide (x % pp = y % pp))
  | 5 => .bool (decide (x % pp = y % pp))
  | _ => undef
set_option maxRecDepth 100000 in
set_option maxHeartbeats 4000000 in
theorem same_any (x y : Nat) (hx : x < R256) (hy : y < R256) (w : World) (hT : TP w) : Calls Tryd.prog 99 #[.agg (numA x), .agg (numA y)] w fun r w' => r = .returned (.bool (decide (x % pp = y % pp))) ∧ Below w.heap.size w w' := by
  go_enter Tryd.func99, Tryd.ntmps99
  go_upto_region 1 with fail
  have hK := ((Kp.nil w).alloc (numA x) 111).alloc (numA y) 111
  rw [World.size_alloc] at hK
  generalize (w.alloc (.cells (numA x) 111)).alloc (.cells (numA y) 111) = W at *
  obtain ⟨bX, H1⟩ : ∃ bX, Hid (w.heap.size = bX) := ⟨_, rfl⟩
  obtain ⟨bY, H2⟩ : ∃ bY, Hid (bX + 1 = bY) := ⟨_, rfl⟩
  rw [H1.out, H2.out] at hK ⊢
  refine wp_region_vals 10 (by kernel_rfl) (by kernel_rfl) (by rfl) (valSame x y) (fun _ => Kp [(bY, numA y, 111), (bX, numA x, 111)] w) hK.drew ?_ ?_
  · intro L ac wc i o hF hLi ho hd K hK
    rcases i with _ | _ | _ | _ | _ | _ | i
    · have ho' := ho
      obtain rfl := Option.some.inj ho
      have f2 : ac.tmps.getD 2 undef = .pointer (some ⟨bX, 0, none⟩) := slotv hF 0 hLi 2 (by kernel_rfl)
      refine step_do ho' (wanted_free rfl) ?_
      exact wp_load_own 111 (.tmp 2) rfl bX f2 (numA x) _ 111 hF.j.h2 Tryd.underlying111 rfl infoFN (hK _ _ (.inr rfl) hF.j)
    · have ho' := ho
      obtain rfl := Option.some.inj ho
      have f5 : ac.tmps.getD 5 undef = .agg (numA (x)) := valv hF hd 0 rfl rfl (by kernel_rfl)
      refine step_do ho' (wanted_free rfl) ?_
      unfold Oper.wp
      go_simp
      refine (least_any x hx _ (hT.kp hF.j)).mono ?_
      rintro e w' ⟨rfl, hB⟩
      exact hK _ _ (.inr rfl) (hF.j.below hB)
    · have ho' := ho
      obtain rfl := Option.some.inj ho
      have f3 : ac.tmps.getD 3 undef = .pointer (some ⟨bY, 0, none⟩) := slotv hF 2 hLi 3 (by kernel_rfl)
      refine step_do ho' (wanted_free rfl) ?_
      exact wp_load_own 111 (.tmp 3) rfl bY f3 (numA y) _ 111 hF.j.h1 Tryd.underlying111 rfl infoFN (hK _ _ (.inr rfl) hF.j)
    · have ho' := ho
      obtain rfl := Option.some.inj ho
      have f7 : ac.tmps.getD 7 undef = .agg (numA (y)) := valv hF hd 2 rfl rfl (by kernel_rfl)
      refine step_do ho' (wanted_free rfl) ?_
      unfold Oper.wp
      go_simp
      refine (least_any y hy _ (hT.kp hF.j)).mono ?_
      rintro e w' ⟨rfl, hB⟩
      exact hK _ _ (.inr rfl) (hF.j.below hB)
    · have ho' := ho
      obtain rfl := Option.some.inj ho
      have f6 : ac.tmps.getD 6 undef = .agg (numA (x % pp)) := valv hF hd 1 rfl rfl (by kernel_rfl)
      have f8 : ac.tmps.getD 8 undef = .agg (numA (y % pp)) := valv hF hd 3 rfl rfl (by kernel_rfl)
      refine step_do ho' (wanted_free rfl) ?_
      have he := fn_eq (x % pp) (y % pp) lt_of_mod lt_of_mod
      unfold Oper.wp
      go_simp
      exact hK _ _ (.inr rfl) hF.j
    · have ho' := ho
      obtain rfl := Option.some.inj ho
      have f9 : ac.tmps.getD 9 undef = .bool (decide (x % pp = y % pp)) := valv hF hd 4 rfl rfl (by kernel_rfl)
      refine step_do ho' (wanted_free rfl) ?_
      unfold Oper.wp
      go_simp
      exact hK _ _ (.inr rfl) hF.j
    · cases ho
  · intro L wq hL hKq
    simp only [putAll, valSame, Act.put, List.setIfInBounds_toArray, List.set_cons_succ, List.set_cons_zero]
    go_wp2_with fail
    go_ret
    exact ⟨rfl, hKq.2⟩
def TT (w : World) : Prop := 6 < w.heap.size ∧ w.cell? ⟨6, 0, none⟩ = some (.int .u64 14190309331451158704) ∧ w.cell? ⟨6, 1, none⟩ = some (.int .u64 3405592160176694392) ∧ w.cell? ⟨6, 2, none⟩ = some (.int .u64 3120150775007532967) ∧ w.cell? ⟨6, 3, none⟩ = some (.int .u64 3135389899092516619)
theorem TT.keep {w w' : World} (h : TT w) (hB : Below w.heap.size w w') : TT w' := by
  obtain ⟨h0, h1, h2, h3, h4⟩ := h
  have hc := (bcell hB).1
  exact ⟨Nat.lt_of_lt_of_le h0 hB.size, by rw [hc _ _ h0]; exact h1, by rw [hc _ _ h0]; exact h2, by rw [hc _ _ h0]; exact h3, by rw [hc _ _ h0]; exact h4⟩
theorem turn_num : (#[.int .u64 14190309331451158704, .int .u64 3405592160176694392, .int .u64 3120150775007532967, .int .u64 3135389899092516619] : Array Value) = numA fi := by rfl
theorem ptimes_turn {A : Array Value} {x y : Nat} (h : A = numA y) (hx : x < R256) (hy : y < R256) (w : World) : Calls Tryd.prog 91 #[.agg (numA x), .agg A] w fun r w' => r = .returned (.agg (numA (tmul x y))) ∧ Below w.heap.size w w' := by
  rw [h]; exact ptimes_any x y hx hy w
def rootBo : Option Nat → Value
  | some z => .tuple #[.agg (B32 (bdig z)), .bool true]
  | none => .tuple #[.agg (B32 (bdig 0)), .bool false]
theorem rootB_first {a r : Nat} (h1 : a ^ ((pp + 3) / 8) % pp = r) (h : r * r % pp = a % pp) : rootBo (froot a) = .tuple #[.agg (B32 (bdig (evenOf r))), .bool true] := by
  have : froot a = some (evenOf r) := by
    rw [froot_of, h1]
    unfold rootOf
    rw [if_pos h]
  rw [this, rootBo]
theorem rootB_second {a r x : Nat} (h1 : a ^ ((pp + 3) / 8) % pp = r) (hn : ¬ r * r % pp = a % pp) (hx : r * fi % pp = x) (h : x * x % pp = a % pp) : rootBo (froot a) = .tuple #[.agg (B32 (bdig (evenOf x))), .bool true] := by
  have : froot a = some (evenOf x) := by
    rw [froot_of, h1]
    unfold rootOf
    rw [if_neg hn, if_pos (by rw [hx]; exact h), hx]
  rw [this, rootBo]
theorem rootB_none {a r x : Nat} (h1 : a ^ ((pp + 3) / 8) % pp = r) (hn : ¬ r * r % pp = a % pp) (hx : r * fi % pp = x) (h : ¬ x * x % pp = a % pp) : rootBo (froot a) = .tuple #[.agg (B32 (bdig 0)), .bool false] := by
  have : froot a = none := by
    rw [froot_of, h1]
    unfold rootOf
    rw [if_neg hn, if_neg (by rw [hx]; exact h)]
  rw [this, rootBo]
theorem root_exp : (2 ^ 250 - 1) * 2 ^ 2 + 1 * 2 ^ 1 = (pp + 3) / 8 := by decide
theorem root_power {a o s : Nat} (ho : tones a 250 = o) (hs : tsq a 1 = s) : tmul (tsq o 2) s % pp = a ^ ((pp + 3) / 8) % pp := by
  have h1 : PM a (2 ^ 250 - 1) o := by rw [← ho]; exact tones_pow a 250 (by decide)
  have h2 : PM a (1 * 2 ^ 1) s := by rw [← hs]; exact PM.sq (PM.one a) 1
  have h4 := PM.mul (PM.sq h1 2) h2
  rw [root_exp] at h4
  exact h4
theorem sq_mod {q x y : Nat} (hx : q % pp = x) (hy : tsq q 1 = y) : x * x % pp = y % pp := by
  rw [← hx, ← hy, ← Nat.mul_mod]
  exact (tmul_mod q q).symm
theorem turn_mod {q x z : Nat} (hx : q % pp = x) (hz : tmul q fi = z) : x * fi % pp = z % pp := by
  rw [← hz, tmul_mod, ← hx, Nat.mod_mul_mod]
theorem zero_bytes : B32 (fun _ => 0) = B32 (bdig 0) := B32_ext fun i _ => by unfold bdig; rw [Nat.zero_div]
def factRoot (a o s : Nat) : Nat → Value → Prop
  | 0, v => v = .agg (numA (a))
  | 1, v => v = .agg (numA (o))
  | 2, v => v = .agg (numA (tsq o 2))
  | 3, v => v = .agg (numA (a))
  | 4, v => v = .agg (numA (s))
  | 5, v => v = .agg (numA (tmul (tsq o 2) s))
  | 6, v => ∃ g, v = .pointer (some ⟨g, 0, none⟩)
  | _, _ => True
def valTest (x y a : Nat) (d : Bool) : Nat → Value
  | 0 => .agg (numA x)
  | 1 => .agg (numA y)
  | 2 => .agg (numA a)
  | 3 => .bool d
  | _ => .bool (!d)
set_option maxRecDepth 100000 in
set_option maxHeartbeats 16000000 in
theorem proot_any (a : Nat) (ha : a < R256) (w : World) (hT : TP w) (hTT : TT w) : Calls Tryd.prog 88 #[.agg (B32 (bdig a))] w fun r w' => r = .returned (rootBo (froot a)) ∧ Below w.heap.size w w' := by
  have hz := (zero_of_info zeroB32).1
  have hz2 := (zero_of_info zeroFN).1
  have hs := tsq_lt ha 1
  obtain ⟨s, Hs⟩ : ∃ s, Hid (tsq a 1 = s) := ⟨_, rfl⟩
  rw [Hs.out] at hs
  have ho5 := tones_lt ha 250
  obtain ⟨o, Ho⟩ : ∃ o, Hid (tones a 250 = o) := ⟨_, rfl⟩
  rw [Ho.out] at ho5
  have hq := tmul_lt (tsq_lt ho5 2) hs
  obtain ⟨q, Hq⟩ : ∃ q, Hid (tmul (tsq o 2) s = q) := ⟨_, rfl⟩
  rw [Hq.out] at hq
  have Hpow : Hid (a ^ ((pp + 3) / 8) % pp = q % pp) := by show _ = _; rw [← Hq.out]; exact (root_power Ho.out Hs.out).symm
  have hy := tsq_lt hq 1
  obtain ⟨y, Hy⟩ : ∃ y, Hid (tsq q 1 = y) := ⟨_, rfl⟩
  rw [Hy.out] at hy
  obtain ⟨d, Hd⟩ : ∃ d, Hid (decide (y % pp = a % pp) = d) := ⟨_, rfl⟩
  obtain ⟨V, HV⟩ : ∃ V, Hid (rootBo (froot a) = V) := ⟨_, rfl⟩
  rw [HV.out]
  go_enter Tryd.func88, Tryd.ntmps88
  go_upto_region 1 with fail
  have hK := ((Kp.nil w).alloc (B32 (bdig a)) 22).alloc (B32 fun _ => 0) 22
  rw [World.size_alloc] at hK
  generalize (w.alloc (.cells (B32 (bdig a)) 22)).alloc (.cells (B32 fun _ => 0) 22) = W at *
  obtain ⟨bA, H1⟩ : ∃ bA, Hid (w.heap.size = bA) := ⟨_, rfl⟩
  obtain ⟨bR, H2⟩ : ∃ bR, Hid (bA + 1 = bR) := ⟨_, rfl⟩
  have hleR : w.heap.size ≤ bR := by have := H1.out; have := H2.out; omega
  rw [H1.out, H2.out] at hK ⊢
  go_wp2_with (refine wpList_load_own (by rfl) 22 (.tmp 1) (by rfl) bA (by rfl) (B32 (bdig a)) _ hK.h2 Tryd.underlying22 (by rfl) (B32_info _) ?_)
  refine (read_any a W).mono ?_
  rintro r W1 ⟨rfl, bw⟩
  have hK := hK.below bw
  go_upto_region 2 with (refine wpList_store_new (by rfl) 111 (.tmp 4) (.tmp 7) (by rfl) _ (numA a) (by rfl) (by rfl) infoFN rfl (numA_one _) (by rfl) ?_)
  have hK := hK.alloc (numA a) 111
  generalize W1.alloc (.cells (numA a) 111) = W2 at *
  obtain ⟨bN, H3⟩ : ∃ bN, Hid (W1.heap.size = bN) := ⟨_, rfl⟩
  rw [H3.out] at hK ⊢
  have hK : Kp [(bN, numA a, 111), (bR, B32 fun _ => 0, 22)] w W2 := hK.sub (by simp)
  refine wp_region_told 38 (by kernel_rfl) (by kernel_rfl) (by rfl) (factRoot a o s) (fun L vs => Mk [(bN, numA a, 111), (bR, B32 fun _ => 0, 22)] w (Q4 0 0 0 0) (numA (tmul (tsq o 2) s)) 111 (L 6) (L 7) (vs 6)) (fun _ => Mk.drew hK) ?_ ?_
  · intro L vs ac wc i o' hF hLi ho hd K hK
    rcases i with _ | _ | _ | _ | _ | _ | _ | _ | i
    · have ho' := ho
      obtain rfl := Option.some.inj ho
      have f4 : ac.tmps.getD 4 undef = .pointer (some ⟨bN, 0, none⟩) := slott hF 0 hLi 4 (by kernel_rfl)
      refine step_do ho' (wanted_free rfl) ?_
      exact wp_load_own 111 (.tmp 4) rfl bN f4 (numA a) _ 111 hF.j.1.h1 Tryd.underlying111 rfl infoFN (hK _ _ (.inr rfl) hF.j)
    · have ho' := ho
      obtain rfl := Option.some.inj ho
      have f8 : ac.tmps.getD 8 undef = .agg (numA (a)) := (factt hF hd 0 rfl rfl (by kernel_rfl)).1.trans (factt hF hd 0 rfl rfl (by kernel_rfl)).2
      refine step_do ho' (wanted_free rfl) ?_
      unfold Oper.wp
      go_simp
      refine (ones_any a ha 250 (by decide) (by decide) _).mono ?_
      rintro e' w' ⟨rfl, hB⟩
      rw [Ho.out]
      exact hK _ _ (.inr rfl) (hF.j.below hB)
    · have ho' := ho
      obtain rfl := Option.some.inj ho
      have f9 : ac.tmps.getD 9 undef = .agg (numA (o)) := (factt hF hd 1 rfl rfl (by kernel_rfl)).1.trans (factt hF hd 1 rfl rfl (by kernel_rfl)).2
      refine step_do ho' (wanted_free rfl) ?_
      unfold Oper.wp
      go_simp
      refine (squared_any o 2 ho5 (by decide) _).mono ?_
      rintro e w' ⟨rfl, hB⟩
      exact hK _ _ (.inr rfl) (hF.j.below hB)
    · have ho' := ho
      obtain rfl := Option.some.inj ho
      have f4 : ac.tmps.getD 4 undef = .pointer (some ⟨bN, 0, none⟩) := slott hF 3 hLi 4 (by kernel_rfl)
      refine step_do ho' (wanted_free rfl) ?_
      exact wp_load_own 111 (.tmp 4) rfl bN f4 (numA a) _ 111 hF.j.1.h1 Tryd.underlying111 rfl infoFN (hK _ _ (.inr rfl) hF.j)
    · have ho' := ho
      obtain rfl := Option.some.inj ho
      have f11 : ac.tmps.getD 11 undef = .agg (numA (a)) := (factt hF hd 3 rfl rfl (by kernel_rfl)).1.trans (factt hF hd 3 rfl rfl (by kernel_rfl)).2
      refine step_do ho' (wanted_free rfl) ?_
      unfold Oper.wp
      go_simp
      refine (squared_any a 1 ha (by decide) _).mono ?_
      rintro e' w' ⟨rfl, hB⟩
      rw [Hs.out]
      exact hK _ _ (.inr rfl) (hF.j.below hB)
    · have ho' := ho
      obtain rfl := Option.some.inj ho
      have f10 : ac.tmps.getD 10 undef = .agg (numA (tsq o 2)) := (factt hF hd 2 rfl rfl (by kernel_rfl)).1.trans (factt hF hd 2 rfl rfl (by kernel_rfl)).2
      have f12 : ac.tmps.getD 12 undef = .agg (numA (s)) := (factt hF hd 4 rfl rfl (by kernel_rfl)).1.trans (factt hF hd 4 rfl rfl (by kernel_rfl)).2
      refine step_do ho' (wanted_free rfl) ?_
      unfold Oper.wp
      go_simp
      refine (ptimes_any _ _ (tsq_lt ho5 2) hs _).mono ?_
      rintro e w' ⟨rfl, hB⟩
      exact hK _ _ (.inr rfl) (hF.j.below hB)
    · have ho' := ho
      obtain rfl := Option.some.inj ho
      refine step_do ho' (wanted_free rfl) ?_
      have hs := notyett hF 6 hLi 7 rfl (by kernel_rfl)
      unfold Oper.wp
      go_simp
      rw [Q4_zero]
      exact hK _ _ (.inr ⟨_, rfl⟩) (Mk.alloc hF.j.1 hs)
    · have ho' := ho
      obtain rfl := Option.some.inj ho
      have f13 : ac.tmps.getD 13 undef = .agg (numA (tmul (tsq o 2) s)) := (factt hF hd 5 rfl rfl (by kernel_rfl)).1.trans (factt hF hd 5 rfl rfl (by kernel_rfl)).2
      refine step_do ho' (wanted_free rfl) ?_
      obtain ⟨fg, g, hg⟩ := factt hF hd 6 rfl rfl (by kernel_rfl)
      have hm := dep hd 6 (by kernel_rfl)
      have hj := hF.j
      rw [hg] at fg
      have hj2 := hj.at hm hg hLi
      refine wp_store_own 111 (.tmp 5) (.tmp 13) rfl g (numA (tmul (tsq o 2) s)) fg f13 hj2.2.2 rfl infoFN (numA_one _) rfl ?_
      exact hK undef _ (.inl rfl) (hj.store hm hg hLi rfl)
    · cases ho
  · intro L vs wq hL hJ hf
    obtain ⟨g, hg⟩ := hf 6 _ _ rfl rfl
    obtain ⟨hK, hgl, hgn⟩ := hJ.done (hL 6 (by decide)) hg (hL 7 (by decide))
    have e0 : vs 0 = _ := hf 0 _ _ rfl rfl
    have e1 : vs 1 = _ := hf 1 _ _ rfl rfl
    have e2 : vs 2 = _ := hf 2 _ _ rfl rfl
    have e3 : vs 3 = _ := hf 3 _ _ rfl rfl
    have e4 : vs 4 = _ := hf 4 _ _ rfl rfl
    have e5 : vs 5 = _ := hf 5 _ _ rfl rfl
    simp only [putAll, Nat.zero_add, Nat.reduceAdd, e0, e1, e2, e3, e4, e5, hg, Act.put, List.setIfInBounds_toArray, List.set_cons_succ, List.set_cons_zero]
    rw [Hq.out] at hK ⊢
    have hnot : ∀ p ∈ [(bN, numA a, 111), (bR, B32 fun _ => 0, 22)], p.1 ≠ g := hgn
    clear hJ hf hL hgn
    go_upto_region 3 with fail
    refine wp_region_vals 38 (by kernel_rfl) (by kernel_rfl) (by rfl) (valTest q y a d) (fun _ => Kp [(g, numA q, 111), (bN, numA a, 111), (bR, B32 fun _ => 0, 22)] w) hK.drew ?_ ?_
    · intro L ac wc i o' hF hLi ho hd K hK
      rcases i with _ | _ | _ | _ | _ | i
      · have ho' := ho
        obtain rfl := Option.some.inj ho
        have f5 : ac.tmps.getD 5 undef = .pointer (some ⟨g, 0, none⟩) := slotv hF 0 hLi 5 (by kernel_rfl)
        refine step_do ho' (wanted_free rfl) ?_
        exact wp_load_own 111 (.tmp 5) rfl g f5 (numA q) _ 111 hF.j.h1 Tryd.underlying111 rfl infoFN (hK _ _ (.inr rfl) hF.j)
      · have ho' := ho
        obtain rfl := Option.some.inj ho
        have f14 : ac.tmps.getD 14 undef = .agg (numA (q)) := valv hF hd 0 rfl rfl (by kernel_rfl)
        refine step_do ho' (wanted_free rfl) ?_
        unfold Oper.wp
        go_simp
        refine (squared_any q 1 hq (by decide) _).mono ?_
        rintro e' w' ⟨rfl, hB⟩
        rw [Hy.out]
        exact hK _ _ (.inr rfl) (hF.j.below hB)
      · have ho' := ho
        obtain rfl := Option.some.inj ho
        have f4 : ac.tmps.getD 4 undef = .pointer (some ⟨bN, 0, none⟩) := slotv hF 2 hLi 4 (by kernel_rfl)
        refine step_do ho' (wanted_free rfl) ?_
        exact wp_load_own 111 (.tmp 4) rfl bN f4 (numA a) _ 111 hF.j.h2 Tryd.underlying111 rfl infoFN (hK _ _ (.inr rfl) hF.j)
      · have ho' := ho
        obtain rfl := Option.some.inj ho
        have f15 : ac.tmps.getD 15 undef = .agg (numA (y)) := valv hF hd 1 rfl rfl (by kernel_rfl)
        have f16 : ac.tmps.getD 16 undef = .agg (numA (a)) := valv hF hd 2 rfl rfl (by kernel_rfl)
        refine step_do ho' (wanted_free rfl) ?_
        unfold Oper.wp
        go_simp
        refine (same_any y a hy ha _ (hT.kp hF.j)).mono ?_
        rintro e' w' ⟨rfl, hB⟩
        rw [Hd.out]
        exact hK _ _ (.inr rfl) (hF.j.below hB)
      · have ho' := ho
        obtain rfl := Option.some.inj ho
        have f17 : ac.tmps.getD 17 undef = .bool d := valv hF hd 3 rfl rfl (by kernel_rfl)
        refine step_do ho' (wanted_free rfl) ?_
        unfold Oper.wp
        go_simp
        exact hK _ _ (.inr rfl) hF.j
      · cases ho
    · intro L wy hL hK
      simp only [putAll, valTest, Act.put, List.setIfInBounds_toArray, List.set_cons_succ, List.set_cons_zero]
      clear hL
      cases d with
      | true =>
        have hyd := of_decide_eq_true Hd.out
        go_upto_region 5 with fail
        refine wp_region_vals 38 (by kernel_rfl) (by kernel_rfl) (by rfl) (valTest q y a true) (fun _ => Kp [(g, numA q, 111), (bN, numA a, 111), (bR, B32 fun _ => 0, 22)] w) hK.drew ?_ ?_
        · intro L ac wc i o' hF hLi ho hd K hK
          rcases i with _ | _ | _ | _ | _ | i
          · have ho' := ho
            obtain rfl := Option.some.inj ho
            have f5 : ac.tmps.getD 5 undef = .pointer (some ⟨g, 0, none⟩) := slotv hF 0 hLi 5 (by kernel_rfl)
            refine step_do ho' (wanted_free rfl) ?_
            exact wp_load_own 111 (.tmp 5) rfl g f5 (numA q) _ 111 hF.j.h1 Tryd.underlying111 rfl infoFN (hK _ _ (.inr rfl) hF.j)
          · have ho' := ho
            obtain rfl := Option.some.inj ho
            have f22 : ac.tmps.getD 22 undef = .agg (numA (q)) := valv hF hd 0 rfl rfl (by kernel_rfl)
            refine step_do ho' (wanted_free rfl) ?_
            unfold Oper.wp
            go_simp
            refine (squared_any q 1 hq (by decide) _).mono ?_
            rintro e' w' ⟨rfl, hB⟩
            rw [Hy.out]
            exact hK _ _ (.inr rfl) (hF.j.below hB)
          · have ho' := ho
            obtain rfl := Option.some.inj ho
            have f4 : ac.tmps.getD 4 undef = .pointer (some ⟨bN, 0, none⟩) := slotv hF 2 hLi 4 (by kernel_rfl)
            refine step_do ho' (wanted_free rfl) ?_
            exact wp_load_own 111 (.tmp 4) rfl bN f4 (numA a) _ 111 hF.j.h2 Tryd.underlying111 rfl infoFN (hK _ _ (.inr rfl) hF.j)
          · have ho' := ho
            obtain rfl := Option.some.inj ho
            have f23 : ac.tmps.getD 23 undef = .agg (numA (y)) := valv hF hd 1 rfl rfl (by kernel_rfl)
            have f24 : ac.tmps.getD 24 undef = .agg (numA (a)) := valv hF hd 2 rfl rfl (by kernel_rfl)
            refine step_do ho' (wanted_free rfl) ?_
            unfold Oper.wp
            go_simp
            refine (same_any y a hy ha _ (hT.kp hF.j)).mono ?_
            rintro e' w' ⟨rfl, hB⟩
            rw [Hd.out]
            exact hK _ _ (.inr rfl) (hF.j.below hB)
          · have ho' := ho
            obtain rfl := Option.some.inj ho
            have f25 : ac.tmps.getD 25 undef = .bool true := valv hF hd 3 rfl rfl (by kernel_rfl)
            refine step_do ho' (wanted_free rfl) ?_
            unfold Oper.wp
            go_simp
            exact hK _ _ (.inr rfl) hF.j
          · cases ho
        · intro L wz hL hK
          simp only [putAll, valTest, Act.put, List.setIfInBounds_toArray, List.set_cons_succ, List.set_cons_zero]
          clear hL
          obtain ⟨x, Hx⟩ : ∃ x, Hid (q % pp = x) := ⟨_, rfl⟩
          have hxp : x < pp := by rw [← Hx.out]; exact Nat.mod_lt _ pp_pos
          have hxR : x < R256 := Nat.lt_trans hxp (by decide)
          have HE : Hid (V = .tuple #[.agg (B32 (bdig (evenOf x))), .bool true]) := by show _ = _; rw [← HV.out]; exact rootB_first (Hpow.out.trans Hx.out) ((sq_mod Hx.out Hy.out).trans hyd)
          go_upto_region 7 with fail
          go_wp2_with (refine wpList_load_own (by rfl) 111 (.tmp 5) (by rfl) g (by rfl) (numA q) _ hK.h1 Tryd.underlying111 (by rfl) infoFN ?_)
          refine (least_any q hq _ (hT.kp hK)).mono ?_
          rintro e w7 ⟨rfl, b7⟩
          rw [Hx.out]
          have hK := hK.below b7
          go_upto_region 8 with (refine wpList_store_own (by rfl) 111 (.tmp 5) (.tmp 29) (by rfl) g 0 (numA x) (by rfl) (by rfl) hK.h1 (Nat.le_refl _) infoFN (numA_one _) (by rfl) ?_)
          have hK := Kp.set (A' := numA x) hK hnot hgl rfl
          generalize w7.setCells g 0 (numA x).toList = w8 at *
          have c0 := hK.h1.cell (numA_at x 0 (by decide))
          by_cases hx2 : x % 2 = 1
          · have ho1 : bits .and .u64 (dig x 0 : Int) 1 = 1 := by rw [odd_word, hx2]; rfl
            obtain ⟨v, Hv⟩ : ∃ v, Hid (pp - x = v) := ⟨_, rfl⟩
            have hv : v < pp := by have := Hv.out; omega
            have hvR : v < R256 := Nat.lt_trans hv (by decide)
            have Hv2 : Hid (pp - x % pp = v) := by show _ = _; rw [Nat.mod_eq_of_lt hxp]; exact Hv.out
            have Hv3 : Hid (v % pp = v) := Nat.mod_eq_of_lt hv
            have Hev : Hid (evenOf x = v) := by show _ = _; unfold evenOf; rw [if_pos hx2]; exact Hv.out
            clear hx2
            go_upto_region 9 with fail
            clear c0
            go_wp2_with (refine wpList_load_own (by rfl) 111 (.tmp 5) (by rfl) g (by rfl) (numA x) _ hK.h1 Tryd.underlying111 (by rfl) infoFN ?_)
            refine (opp_any x hxR _ (hT.kp hK)).mono ?_
            rintro e w9 ⟨rfl, b9⟩
            rw [Hv2.out]
            have hK := hK.below b9
            go_upto_region 10 with (refine wpList_store_own (by rfl) 111 (.tmp 5) (.tmp 35) (by rfl) g 0 (numA v) (by rfl) (by rfl) hK.h1 (Nat.le_refl _) infoFN (numA_one _) (by rfl) ?_)
            have hK := Kp.set (A' := numA v) hK hnot hgl rfl
            generalize w9.setCells g 0 (numA v).toList = w10 at *
            go_wp2_with (refine wpList_load_own (by rfl) 111 (.tmp 5) (by rfl) g (by rfl) (numA v) _ hK.h1 Tryd.underlying111 (by rfl) infoFN ?_)
            refine (write_any v hvR _ (hT.kp hK)).mono ?_
            rintro e w11 ⟨rfl, b11⟩
            rw [Hv3.out]
            have hK := hK.below b11
            go_wp2_with (refine wpList_store_own (by rfl) 22 (.tmp 2) (.tmp 37) (by rfl) bR 0 (B32 (bdig v)) (by rfl) (by rfl) hK.h3 (B32_le _ _) (B32_info _) (B32_one _) (by rfl) ?_)
            exact bodyPost_ret (results_own_tmp Tryd.results88 _ _ bR (B32 (bdig v)) _ (by rfl) (own_setCells hK.h3 (B32_sizes _ _)) Tryd.underlying22 rfl (B32_info _)) rfl ⟨by rw [HE.out, Hev.out]; rfl, Below.setCells _ _ _ _ hleR hK.2⟩
          · have ho1 : bits .and .u64 (dig x 0 : Int) 1 = 0 := by rw [odd_word, show x % 2 = 0 by omega]; rfl
            have Hx3 : Hid (x % pp = x) := Nat.mod_eq_of_lt hxp
            have Hev : Hid (evenOf x = x) := by show _ = _; unfold evenOf; rw [if_neg hx2]
            clear hx2
            go_upto_region 10 with fail
            clear c0
            go_wp2_with (refine wpList_load_own (by rfl) 111 (.tmp 5) (by rfl) g (by rfl) (numA x) _ hK.h1 Tryd.underlying111 (by rfl) infoFN ?_)
            refine (write_any x hxR _ (hT.kp hK)).mono ?_
            rintro e w11 ⟨rfl, b11⟩
            rw [Hx3.out]
            have hK := hK.below b11
            go_wp2_with (refine wpList_store_own (by rfl) 22 (.tmp 2) (.tmp 37) (by rfl) bR 0 (B32 (bdig x)) (by rfl) (by rfl) hK.h3 (B32_le _ _) (B32_info _) (B32_one _) (by rfl) ?_)
            exact bodyPost_ret (results_own_tmp Tryd.results88 _ _ bR (B32 (bdig x)) _ (by rfl) (own_setCells hK.h3 (B32_sizes _ _)) Tryd.underlying22 rfl (B32_info _)) rfl ⟨by rw [HE.out, Hev.out]; rfl, Below.setCells _ _ _ _ hleR hK.2⟩
      | false =>
        have hyd := of_decide_eq_false Hd.out
        have hz1 := tmul_lt hq (Nat.lt_trans fi_lt (by decide))
        obtain ⟨z, Hz⟩ : ∃ z, Hid (tmul q fi = z) := ⟨_, rfl⟩
        rw [Hz.out] at hz1
        have hu := tsq_lt hz1 1
        obtain ⟨u, Hu⟩ : ∃ u, Hid (tsq z 1 = u) := ⟨_, rfl⟩
        rw [Hu.out] at hu
        obtain ⟨d1, Hd1⟩ : ∃ d, Hid (decide (u % pp = a % pp) = d) := ⟨_, rfl⟩
        obtain ⟨x0, Hx0⟩ : ∃ x, Hid (q % pp = x) := ⟨_, rfl⟩
        obtain ⟨tl, t0, t1, t2, t3⟩ := hTT.keep hK.2
        go_upto_region 4 with fail
        go_wp2_with (refine wpList_load_own (by rfl) 111 (.tmp 5) (by rfl) g (by rfl) (numA q) _ hK.h1 Tryd.underlying111 (by rfl) infoFN ?_)
        refine (ptimes_turn turn_num hq (Nat.lt_trans fi_lt (by decide)) _).mono ?_
        rintro e w4 ⟨rfl, b4⟩
        rw [Hz.out]
        clear tl t0 t1 t2 t3
        have hK := hK.below b4
        go_upto_region 5 with (refine wpList_store_own (by rfl) 111 (.tmp 5) (.tmp 21) (by rfl) g 0 (numA z) (by rfl) (by rfl) hK.h1 (Nat.le_refl _) infoFN (numA_one _) (by rfl) ?_)
        have hK := Kp.set (A' := numA z) hK hnot hgl rfl
        generalize w4.setCells g 0 (numA z).toList = w5 at *
        go_upto_region 5 with fail
        refine wp_region_vals 38 (by kernel_rfl) (by kernel_rfl) (by rfl) (valTest z u a d1) (fun _ => Kp [(g, numA z, 111), (bN, numA a, 111), (bR, B32 fun _ => 0, 22)] w) hK.drew ?_ ?_
        · intro L ac wc i o' hF hLi ho hd K hK
          rcases i with _ | _ | _ | _ | _ | i
          · have ho' := ho
            obtain rfl := Option.some.inj ho
            have f5 : ac.tmps.getD 5 undef = .pointer (some ⟨g, 0, none⟩) := slotv hF 0 hLi 5 (by kernel_rfl)
            refine step_do ho' (wanted_free rfl) ?_
            exact wp_load_own 111 (.tmp 5) rfl g f5 (numA z) _ 111 hF.j.h1 Tryd.underlying111 rfl infoFN (hK _ _ (.inr rfl) hF.j)
          · have ho' := ho
            obtain rfl := Option.some.inj ho
            have f22 : ac.tmps.getD 22 undef = .agg (numA (z)) := valv hF hd 0 rfl rfl (by kernel_rfl)
            refine step_do ho' (wanted_free rfl) ?_
            unfold Oper.wp
            go_simp
            refine (squared_any z 1 hz1 (by decide) _).mono ?_
            rintro e' w' ⟨rfl, hB⟩
            rw [Hu.out]
            exact hK _ _ (.inr rfl) (hF.j.below hB)
          · have ho' := ho
            obtain rfl := Option.some.inj ho
            have f4 : ac.tmps.getD 4 undef = .pointer (some ⟨bN, 0, none⟩) := slotv hF 2 hLi 4 (by kernel_rfl)
            refine step_do ho' (wanted_free rfl) ?_
            exact wp_load_own 111 (.tmp 4) rfl bN f4 (numA a) _ 111 hF.j.h2 Tryd.underlying111 rfl infoFN (hK _ _ (.inr rfl) hF.j)
          · have ho' := ho
            obtain rfl := Option.some.inj ho
            have f23 : ac.tmps.getD 23 undef = .agg (numA (u)) := valv hF hd 1 rfl rfl (by kernel_rfl)
            have f24 : ac.tmps.getD 24 undef = .agg (numA (a)) := valv hF hd 2 rfl rfl (by kernel_rfl)
            refine step_do ho' (wanted_free rfl) ?_
            unfold Oper.wp
            go_simp
            refine (same_any u a hu ha _ (hT.kp hF.j)).mono ?_
            rintro e' w' ⟨rfl, hB⟩
            rw [Hd1.out]
            exact hK _ _ (.inr rfl) (hF.j.below hB)
          · have ho' := ho
            obtain rfl := Option.some.inj ho
            have f25 : ac.tmps.getD 25 undef = .bool d1 := valv hF hd 3 rfl rfl (by kernel_rfl)
            refine step_do ho' (wanted_free rfl) ?_
            unfold Oper.wp
            go_simp
            exact hK _ _ (.inr rfl) hF.j
          · cases ho
        · intro L wz hL hK
          simp only [putAll, valTest, Act.put, List.setIfInBounds_toArray, List.set_cons_succ, List.set_cons_zero]
          clear hL
          cases d1 with
          | true =>
            have hud := of_decide_eq_true Hd1.out
            obtain ⟨x, Hx⟩ : ∃ x, Hid (z % pp = x) := ⟨_, rfl⟩
            have hxp : x < pp := by rw [← Hx.out]; exact Nat.mod_lt _ pp_pos
            have hxR : x < R256 := Nat.lt_trans hxp (by decide)
            have HE : Hid (V = .tuple #[.agg (B32 (bdig (evenOf x))), .bool true]) := by show _ = _; rw [← HV.out]; exact rootB_second (Hpow.out.trans Hx0.out) (fun h => hyd ((sq_mod Hx0.out Hy.out).symm.trans h)) ((turn_mod Hx0.out Hz.out).trans Hx.out) ((sq_mod Hx.out Hu.out).trans hud)
            go_upto_region 7 with fail
            go_wp2_with (refine wpList_load_own (by rfl) 111 (.tmp 5) (by rfl) g (by rfl) (numA z) _ hK.h1 Tryd.underlying111 (by rfl) infoFN ?_)
            refine (least_any z hz1 _ (hT.kp hK)).mono ?_
            rintro e w7 ⟨rfl, b7⟩
            rw [Hx.out]
            have hK := hK.below b7
            go_upto_region 8 with (refine wpList_store_own (by rfl) 111 (.tmp 5) (.tmp 29) (by rfl) g 0 (numA x) (by rfl) (by rfl) hK.h1 (Nat.le_refl _) infoFN (numA_one _) (by rfl) ?_)
            have hK := Kp.set (A' := numA x) hK hnot hgl rfl
            generalize w7.setCells g 0 (numA x).toList = w8 at *
            have c0 := hK.h1.cell (numA_at x 0 (by decide))
            by_cases hx2 : x % 2 = 1
            · have ho1 : bits .and .u64 (dig x 0 : Int) 1 = 1 := by rw [odd_word, hx2]; rfl
              obtain ⟨v, Hv⟩ : ∃ v, Hid (pp - x = v) := ⟨_, rfl⟩
              have hv : v < pp := by have := Hv.out; omega
              have hvR : v < R256 := Nat.lt_trans hv (by decide)
              have Hv2 : Hid (pp - x % pp = v) := by show _ = _; rw [Nat.mod_eq_of_lt hxp]; exact Hv.out
              have Hv3 : Hid (v % pp = v) := Nat.mod_eq_of_lt hv
              have Hev : Hid (evenOf x = v) := by show _ = _; unfold evenOf; rw [if_pos hx2]; exact Hv.out
              clear hx2
              go_upto_region 9 with fail
              clear c0
              go_wp2_with (refine wpList_load_own (by rfl) 111 (.tmp 5) (by rfl) g (by rfl) (numA x) _ hK.h1 Tryd.underlying111 (by rfl) infoFN ?_)
              refine (opp_any x hxR _ (hT.kp hK)).mono ?_
              rintro e w9 ⟨rfl, b9⟩
              rw [Hv2.out]
              have hK := hK.below b9
              go_upto_region 10 with (refine wpList_store_own (by rfl) 111 (.tmp 5) (.tmp 35) (by rfl) g 0 (numA v) (by rfl) (by rfl) hK.h1 (Nat.le_refl _) infoFN (numA_one _) (by rfl) ?_)
              have hK := Kp.set (A' := numA v) hK hnot hgl rfl
              generalize w9.setCells g 0 (numA v).toList = w10 at *
              go_wp2_with (refine wpList_load_own (by rfl) 111 (.tmp 5) (by rfl) g (by rfl) (numA v) _ hK.h1 Tryd.underlying111 (by rfl) infoFN ?_)
              refine (write_any v hvR _ (hT.kp hK)).mono ?_
              rintro e w11 ⟨rfl, b11⟩
              rw [Hv3.out]
              have hK := hK.below b11
              go_wp2_with (refine wpList_store_own (by rfl) 22 (.tmp 2) (.tmp 37) (by rfl) bR 0 (B32 (bdig v)) (by rfl) (by rfl) hK.h3 (B32_le _ _) (B32_info _) (B32_one _) (by rfl) ?_)
              exact bodyPost_ret (results_own_tmp Tryd.results88 _ _ bR (B32 (bdig v)) _ (by rfl) (own_setCells hK.h3 (B32_sizes _ _)) Tryd.underlying22 rfl (B32_info _)) rfl ⟨by rw [HE.out, Hev.out]; rfl, Below.setCells _ _ _ _ hleR hK.2⟩
            · have ho1 : bits .and .u64 (dig x 0 : Int) 1 = 0 := by rw [odd_word, show x % 2 = 0 by omega]; rfl
              have Hx3 : Hid (x % pp = x) := Nat.mod_eq_of_lt hxp
              have Hev : Hid (evenOf x = x) := by show _ = _; unfold evenOf; rw [if_neg hx2]
              clear hx2
              go_upto_region 10 with fail
              clear c0
              go_wp2_with (refine wpList_load_own (by rfl) 111 (.tmp 5) (by rfl) g (by rfl) (numA x) _ hK.h1 Tryd.underlying111 (by rfl) infoFN ?_)
              refine (write_any x hxR _ (hT.kp hK)).mono ?_
              rintro e w11 ⟨rfl, b11⟩
              rw [Hx3.out]
              have hK := hK.below b11
              go_wp2_with (refine wpList_store_own (by rfl) 22 (.tmp 2) (.tmp 37) (by rfl) bR 0 (B32 (bdig x)) (by rfl) (by rfl) hK.h3 (B32_le _ _) (B32_info _) (B32_one _) (by rfl) ?_)
              exact bodyPost_ret (results_own_tmp Tryd.results88 _ _ bR (B32 (bdig x)) _ (by rfl) (own_setCells hK.h3 (B32_sizes _ _)) Tryd.underlying22 rfl (B32_info _)) rfl ⟨by rw [HE.out, Hev.out]; rfl, Below.setCells _ _ _ _ hleR hK.2⟩
          | false =>
            have hud := of_decide_eq_false Hd1.out
            have HE : Hid (V = .tuple #[.agg (B32 (bdig 0)), .bool false]) := by
              show _ = _
              rw [← HV.out]
              exact rootB_none (Hpow.out.trans Hx0.out) (fun h => hyd ((sq_mod Hx0.out Hy.out).symm.trans h)) (turn_mod Hx0.out Hz.out) (fun h => hud ((sq_mod rfl Hu.out).symm.trans h))
            go_upto_region 6 with fail
            go_wp2_with (refine wpList_store_own (by rfl) 22 (.tmp 2) (.tmp 27) (by rfl) bR 0 (B32 fun _ => 0) (by rfl) (by rfl) hK.h3 (B32_le _ _) (B32_info _) (B32_one _) (by rfl) ?_)
            exact bodyPost_ret (results_own_tmp Tryd.results88 _ _ bR (B32 fun _ => 0) _ (by rfl) (own_setCells hK.h3 (B32_sizes _ _)) Tryd.underlying22 rfl (B32_info _)) rfl ⟨by rw [HE.out, ← zero_bytes]; rfl, Below.setCells _ _ _ _ hleR hK.2⟩
end Go.Proofs.YtfkcphbbabaefaaDoor
