/- Of the texts F11, EB: what the card of this claim reaches. -/
import Derived.Test.YtfkcphbbabaefaaDoorXB6
import Derived.Test.YtfkcphbbabaefaaDoorXB3
namespace Go.Proofs.YtfkcphbbabaefaaDoor
open Go.RowKit
def FInv (T : World → Prop) : Prop := ∀ a, a < R256 → ∀ w, T w → Calls Tryd.prog 66 #[.agg (B32 (bdig a))] w fun x w' => x = .returned (.agg (B32 (bdig (finv a)))) ∧ Below w.heap.size w w'
theorem finvA {T : World → Prop} (hI : FInv T) {a c : Nat} (ha : a < R256) (hc : finv a = c) (w : World) (hT : T w) : Calls Tryd.prog 66 #[.agg (B32 (bdig a))] w fun x w' => x = .returned (.agg (B32 (bdig c))) ∧ Below w.heap.size w w' := by
  rw [← hc]; exact hI a ha w hT
theorem inv_exp : (2 ^ 250 - 1) * 2 ^ 5 + (1 * 2 ^ 1 * 2 ^ 2 + 1 * 2 ^ 1 + 1) = pp - 2 := by decide
theorem inv_power {a o s e : Nat} (ho : tones a 250 = o) (hs : tsq a 1 = s) (he : tmul (tmul (tsq s 2) s) a = e) : tmul (tsq o 5) e % pp = finv a := by
  have h1 : PM a (2 ^ 250 - 1) o := by rw [← ho]; exact tones_pow a 250 (by decide)
  have h2 : PM a (1 * 2 ^ 1) s := by rw [← hs]; exact PM.sq (PM.one a) 1
  have h3 : PM a (1 * 2 ^ 1 * 2 ^ 2 + 1 * 2 ^ 1 + 1) e := by rw [← he]; exact PM.mul (PM.mul (PM.sq h2 2) h2) (PM.one a)
  have h4 := PM.mul (PM.sq h1 5) h3
  rw [inv_exp] at h4
  exact h4
def factInv (a s : Nat) : Nat → Value → Prop
  | 0, v => v = .agg (numA (s))
  | 1, v => v = .agg (numA (tsq s 2))
  | 2, v => v = .agg (numA (s))
  | 3, v => v = .agg (numA (tmul (tsq s 2) s))
  | 4, v => v = .agg (numA (a))
  | 5, v => v = .agg (numA (tmul (tmul (tsq s 2) s) a))
  | 6, v => ∃ g, v = .pointer (some ⟨g, 0, none⟩)
  | _, _ => True
def valInv (a o e : Nat) : Nat → Value
  | 0 => .agg (numA (a))
  | 1 => .agg (numA (o))
  | 2 => .agg (numA (tsq o 5))
  | 3 => .agg (numA (e))
  | 4 => .agg (numA (tmul (tsq o 5) e))
  | 5 => .agg (B32 (bdig (tmul (tsq o 5) e % pp)))
  | _ => undef
set_option maxRecDepth 100000 in
set_option maxHeartbeats 16000000 in
theorem finv_p : FInv TP := by
  intro a ha w hT
  have hz := (zero_of_info zeroB32).1
  have hz2 := (zero_of_info zeroFN).1
  have hs := tsq_lt ha 1
  obtain ⟨s, Hs⟩ : ∃ s, Hid (tsq a 1 = s) := ⟨_, rfl⟩
  rw [Hs.out] at hs
  have he := tmul_lt (tmul_lt (tsq_lt hs 2) hs) ha
  obtain ⟨e, He⟩ : ∃ e, Hid (tmul (tmul (tsq s 2) s) a = e) := ⟨_, rfl⟩
  rw [He.out] at he
  have ho5 := tones_lt ha 250
  obtain ⟨o, Ho⟩ : ∃ o, Hid (tones a 250 = o) := ⟨_, rfl⟩
  rw [Ho.out] at ho5
  have Hfin : Hid (tmul (tsq o 5) e % pp = finv a) := inv_power Ho.out Hs.out He.out
  obtain ⟨x, Hx⟩ : ∃ x, Hid (finv a = x) := ⟨_, rfl⟩
  rw [Hx.out]
  go_enter Tryd.func66, Tryd.ntmps66
  go_upto_region 1 with fail
  have hK := ((Kp.nil w).alloc (B32 (bdig a)) 22).alloc (B32 fun _ => 0) 22
  rw [World.size_alloc] at hK
  generalize (w.alloc (.cells (B32 (bdig a)) 22)).alloc (.cells (B32 fun _ => 0) 22) = W at *
  obtain ⟨bA, H1⟩ : ∃ bA, Hid (w.heap.size = bA) := ⟨_, rfl⟩
  obtain ⟨bR, H2⟩ : ∃ bR, Hid (bA + 1 = bR) := ⟨_, rfl⟩
  have hleR : w.heap.size ≤ bR := by have := H1.out; have := H2.out; omega
  rw [H1.out, H2.out] at hK ⊢
  go_wp2_with (refine wpList_load_own (by rfl) 22 (.tmp 1) (by rfl) bA (by rfl) (B32 (bdig a)) _ hK.h2 Tryd.underlying22 (by rfl) (B32_info _) ?_)
  refine (read_any a W).mono ?_
  rintro r W1 ⟨rfl, bw⟩
  have hK := hK.below bw
  have lR := hK.h1.lt
  go_upto_region 2 with (refine wpList_store_new (by rfl) 111 (.tmp 3) (.tmp 7) (by rfl) _ (numA a) (by rfl) (by rfl) infoFN rfl (numA_one _) (by rfl) ?_)
  have hK := hK.alloc (numA a) 111
  generalize W1.alloc (.cells (numA a) 111) = W2 at *
  obtain ⟨bN, H3⟩ : ∃ bN, Hid (W1.heap.size = bN) := ⟨_, rfl⟩
  rw [H3.out] at hK lR ⊢
  have hK : Kp [(bN, numA a, 111), (bR, B32 fun _ => 0, 22)] w W2 := hK.sub (by simp)
  go_wp2_with (refine wpList_load_own (by rfl) 111 (.tmp 3) (by rfl) bN (by rfl) (numA a) _ hK.h1 Tryd.underlying111 (by rfl) infoFN ?_)
  refine (squared_any a 1 ha (by decide) W2).mono ?_
  rintro r W3 ⟨rfl, bw⟩
  rw [Hs.out]
  have hK := hK.below bw
  go_upto_region 3 with (refine wpList_store_new (by rfl) 111 (.tmp 4) (.tmp 9) (by rfl) _ (numA s) (by rfl) (by rfl) infoFN rfl (numA_one _) (by rfl) ?_)
  have hK := hK.alloc (numA s) 111
  generalize W3.alloc (.cells (numA s) 111) = W4 at *
  obtain ⟨bS, H4⟩ : ∃ bS, Hid (W3.heap.size = bS) := ⟨_, rfl⟩
  rw [H4.out] at hK ⊢
  refine wp_region_told 22 (by kernel_rfl) (by kernel_rfl) (by rfl) (factInv a s) (fun L vs => Mk [(bS, numA s, 111), (bN, numA a, 111), (bR, B32 fun _ => 0, 22)] w (Q4 0 0 0 0) (numA (tmul (tmul (tsq s 2) s) a)) 111 (L 6) (L 7) (vs 6)) (fun _ => Mk.drew hK) ?_ ?_
  · intro L vs ac wc i o' hF hLi ho hd K hK
    rcases i with _ | _ | _ | _ | _ | _ | _ | _ | i
    · have ho' := ho
      obtain rfl := Option.some.inj ho
      have f4 : ac.tmps.getD 4 undef = .pointer (some ⟨bS, 0, none⟩) := slott hF 0 hLi 4 (by kernel_rfl)
      refine step_do ho' (wanted_free rfl) ?_
      exact wp_load_own 111 (.tmp 4) rfl bS f4 (numA s) _ 111 hF.j.1.h1 Tryd.underlying111 rfl infoFN (hK _ _ (.inr rfl) hF.j)
    · have ho' := ho
      obtain rfl := Option.some.inj ho
      have f10 : ac.tmps.getD 10 undef = .agg (numA (s)) := (factt hF hd 0 rfl rfl (by kernel_rfl)).1.trans (factt hF hd 0 rfl rfl (by kernel_rfl)).2
      refine step_do ho' (wanted_free rfl) ?_
      unfold Oper.wp
      go_simp
      refine (squared_any s 2 hs (by decide) _).mono ?_
      rintro e w' ⟨rfl, hB⟩
      exact hK _ _ (.inr rfl) (hF.j.below hB)
    · have ho' := ho
      obtain rfl := Option.some.inj ho
      have f4 : ac.tmps.getD 4 undef = .pointer (some ⟨bS, 0, none⟩) := slott hF 2 hLi 4 (by kernel_rfl)
      refine step_do ho' (wanted_free rfl) ?_
      exact wp_load_own 111 (.tmp 4) rfl bS f4 (numA s) _ 111 hF.j.1.h1 Tryd.underlying111 rfl infoFN (hK _ _ (.inr rfl) hF.j)
    · have ho' := ho
      obtain rfl := Option.some.inj ho
      have f11 : ac.tmps.getD 11 undef = .agg (numA (tsq s 2)) := (factt hF hd 1 rfl rfl (by kernel_rfl)).1.trans (factt hF hd 1 rfl rfl (by kernel_rfl)).2
      have f12 : ac.tmps.getD 12 undef = .agg (numA (s)) := (factt hF hd 2 rfl rfl (by kernel_rfl)).1.trans (factt hF hd 2 rfl rfl (by kernel_rfl)).2
      refine step_do ho' (wanted_free rfl) ?_
      unfold Oper.wp
      go_simp
      refine (ptimes_any _ _ (tsq_lt hs 2) hs _).mono ?_
      rintro e w' ⟨rfl, hB⟩
      exact hK _ _ (.inr rfl) (hF.j.below hB)
    · have ho' := ho
      obtain rfl := Option.some.inj ho
      have f3 : ac.tmps.getD 3 undef = .pointer (some ⟨bN, 0, none⟩) := slott hF 4 hLi 3 (by kernel_rfl)
      refine step_do ho' (wanted_free rfl) ?_
      exact wp_load_own 111 (.tmp 3) rfl bN f3 (numA a) _ 111 hF.j.1.h2 Tryd.underlying111 rfl infoFN (hK _ _ (.inr rfl) hF.j)
    · have ho' := ho
      obtain rfl := Option.some.inj ho
      have f13 : ac.tmps.getD 13 undef = .agg (numA (tmul (tsq s 2) s)) := (factt hF hd 3 rfl rfl (by kernel_rfl)).1.trans (factt hF hd 3 rfl rfl (by kernel_rfl)).2
      have f14 : ac.tmps.getD 14 undef = .agg (numA (a)) := (factt hF hd 4 rfl rfl (by kernel_rfl)).1.trans (factt hF hd 4 rfl rfl (by kernel_rfl)).2
      refine step_do ho' (wanted_free rfl) ?_
      unfold Oper.wp
      go_simp
      refine (ptimes_any _ _ (tmul_lt (tsq_lt hs 2) hs) ha _).mono ?_
      rintro e w' ⟨rfl, hB⟩
      exact hK _ _ (.inr rfl) (hF.j.below hB)
    · have ho' := ho
      obtain rfl := Option.some.inj ho
      refine step_do ho' (wanted_free rfl) ?_
      have hs := notyett hF 6 hLi 7 rfl (by kernel_rfl)
      unfold Oper.wp
      go_simp
      rw [Q4_zero]
      exact hK _ _ (.inr ⟨_, rfl⟩) (Mk.alloc hF.j.1 hs)
    · have ho' := ho
      obtain rfl := Option.some.inj ho
      have f15 : ac.tmps.getD 15 undef = .agg (numA (tmul (tmul (tsq s 2) s) a)) := (factt hF hd 5 rfl rfl (by kernel_rfl)).1.trans (factt hF hd 5 rfl rfl (by kernel_rfl)).2
      refine step_do ho' (wanted_free rfl) ?_
      obtain ⟨fg, g, hg⟩ := factt hF hd 6 rfl rfl (by kernel_rfl)
      have hm := dep hd 6 (by kernel_rfl)
      have hj := hF.j
      rw [hg] at fg
      have hj2 := hj.at hm hg hLi
      refine wp_store_own 111 (.tmp 5) (.tmp 15) rfl g (numA (tmul (tmul (tsq s 2) s) a)) fg f15 hj2.2.2 rfl infoFN (numA_one _) rfl ?_
      exact hK undef _ (.inl rfl) (hj.store hm hg hLi rfl)
    · cases ho
  · intro L vs wq hL hJ hf
    obtain ⟨g, hg⟩ := hf 6 _ _ rfl rfl
    obtain ⟨hK, hgl, hgn⟩ := hJ.done (hL 6 (by decide)) hg (hL 7 (by decide))
    have e0 : vs 0 = _ := hf 0 _ _ rfl rfl
    have e1 : vs 1 = _ := hf 1 _ _ rfl rfl
    have e2 : vs 2 = _ := hf 2 _ _ rfl rfl
    have e3 : vs 3 = _ := hf 3 _ _ rfl rfl
    have e4 : vs 4 = _ := hf 4 _ _ rfl rfl
    have e5 : vs 5 = _ := hf 5 _ _ rfl rfl
    simp only [putAll, Nat.zero_add, Nat.reduceAdd, e0, e1, e2, e3, e4, e5, hg, Act.put, List.setIfInBounds_toArray, List.set_cons_succ, List.set_cons_zero]
    rw [He.out] at hK ⊢
    have ngR : bR ≠ g := hgn (bR, B32 fun _ => 0, 22) (by simp)
    have hK : Kp [(bR, B32 fun _ => 0, 22), (g, numA e, 111), (bN, numA a, 111)] w wq := hK.sub (by simp)
    go_upto_region 4 with fail
    refine wp_region_vals 22 (by kernel_rfl) (by kernel_rfl) (by rfl) (valInv a o e) (fun L => Kp [(bR, if L 6 then B32 (bdig (tmul (tsq o 5) e % pp)) else B32 fun _ => 0, 22), (g, numA e, 111), (bN, numA a, 111)] w) hK.drew ?_ ?_
    · intro L ac wc i o' hF hLi ho hd K hK
      rcases i with _ | _ | _ | _ | _ | _ | _ | i
      · have ho' := ho
        obtain rfl := Option.some.inj ho
        have f3 : ac.tmps.getD 3 undef = .pointer (some ⟨bN, 0, none⟩) := slotv hF 0 hLi 3 (by kernel_rfl)
        refine step_do ho' (wanted_free rfl) ?_
        exact wp_load_own 111 (.tmp 3) rfl bN f3 (numA a) _ 111 hF.j.h3 Tryd.underlying111 rfl infoFN (hK _ _ (.inr rfl) hF.j)
      · have ho' := ho
        obtain rfl := Option.some.inj ho
        have f16 : ac.tmps.getD 16 undef = .agg (numA (a)) := valv hF hd 0 rfl rfl (by kernel_rfl)
        refine step_do ho' (wanted_free rfl) ?_
        unfold Oper.wp
        go_simp
        refine (ones_any a ha 250 (by decide) (by decide) _).mono ?_
        rintro e' w' ⟨rfl, hB⟩
        rw [Ho.out]
        exact hK _ _ (.inr rfl) (hF.j.below hB)
      · have ho' := ho
        obtain rfl := Option.some.inj ho
        have f17 : ac.tmps.getD 17 undef = .agg (numA (o)) := valv hF hd 1 rfl rfl (by kernel_rfl)
        refine step_do ho' (wanted_free rfl) ?_
        unfold Oper.wp
        go_simp
        refine (squared_any o 5 ho5 (by decide) _).mono ?_
        rintro e w' ⟨rfl, hB⟩
        exact hK _ _ (.inr rfl) (hF.j.below hB)
      · have ho' := ho
        obtain rfl := Option.some.inj ho
        have f5 : ac.tmps.getD 5 undef = .pointer (some ⟨g, 0, none⟩) := slotv hF 3 hLi 5 (by kernel_rfl)
        refine step_do ho' (wanted_free rfl) ?_
        exact wp_load_own 111 (.tmp 5) rfl g f5 (numA e) _ 111 hF.j.h2 Tryd.underlying111 rfl infoFN (hK _ _ (.inr rfl) hF.j)
      · have ho' := ho
        obtain rfl := Option.some.inj ho
        have f18 : ac.tmps.getD 18 undef = .agg (numA (tsq o 5)) := valv hF hd 2 rfl rfl (by kernel_rfl)
        have f19 : ac.tmps.getD 19 undef = .agg (numA (e)) := valv hF hd 3 rfl rfl (by kernel_rfl)
        refine step_do ho' (wanted_free rfl) ?_
        unfold Oper.wp
        go_simp
        refine (ptimes_any _ _ (tsq_lt ho5 5) he _).mono ?_
        rintro e w' ⟨rfl, hB⟩
        exact hK _ _ (.inr rfl) (hF.j.below hB)
      · have ho' := ho
        obtain rfl := Option.some.inj ho
        have f20 : ac.tmps.getD 20 undef = .agg (numA (tmul (tsq o 5) e)) := valv hF hd 4 rfl rfl (by kernel_rfl)
        refine step_do ho' (wanted_free rfl) ?_
        unfold Oper.wp
        go_simp
        refine (write_any _ (tmul_lt (tsq_lt ho5 5) he) _ (hT.kp hF.j)).mono ?_
        rintro e w' ⟨rfl, hB⟩
        exact hK _ _ (.inr rfl) (hF.j.below hB)
      · have ho' := ho
        obtain rfl := Option.some.inj ho
        have f2 : ac.tmps.getD 2 undef = .pointer (some ⟨bR, 0, none⟩) := slotv hF 6 hLi 2 (by kernel_rfl)
        have f21 : ac.tmps.getD 21 undef = .agg (B32 (bdig (tmul (tsq o 5) e % pp))) := valv hF hd 5 rfl rfl (by kernel_rfl)
        refine step_do ho' (wanted_free rfl) ?_
        have hj := hF.j
        rw [hLi] at hj
        refine wp_store_own 22 (.tmp 2) (.tmp 21) rfl bR (B32 (bdig (tmul (tsq o 5) e % pp))) f2 f21 hj.h1 (B32_sizes _ _) (B32_info _) (B32_one _) rfl ?_
        exact hK undef _ (.inl rfl) (Kp.set hj (by simp; omega) hleR (B32_sizes _ _))
      · cases ho
    · intro L wz hL hK
      rw [hL 6 (by decide)] at hK
      simp only [putAll, valInv, Act.put, List.setIfInBounds_toArray, List.set_cons_succ, List.set_cons_zero]
      go_wp2_with fail
      exact bodyPost_ret (results_own Tryd.results66 _ _ bR (B32 (bdig (tmul (tsq o 5) e % pp))) _ (by rfl) hK.h1 Tryd.underlying22 rfl (B32_info _)) rfl ⟨by rw [Hfin.out, Hx.out], hK.2⟩
end Go.Proofs.YtfkcphbbabaefaaDoor
namespace Go.Proofs.YtfkcphbbabaefaaDoor
open Go.RowKit
theorem infoA8 : (Tryd.prog.info? 55).map (·.size) = some 8 := by kernel_rfl
set_option maxRecDepth 100000 in
set_option maxHeartbeats 4000000 in
theorem add_dig (f g : Nat → Nat) (hf : ∀ i, i < 4 → f i < 18446744073709551616) (hg : ∀ i, i < 4 → g i < 18446744073709551616) (w : World) :
    Calls Tryd.prog 74 #[.agg (A4 f), .agg (A4 g)] w fun e w' => (∃ (h : Nat → Nat) (c : Nat), e = .returned (.tuple #[.agg (A4 h), .int .u64 (c : Int)]) ∧ (∀ i, i < 4 → h i < 18446744073709551616) ∧ c ≤ 1 ∧ vl f 4 + vl g 4 = vl h 4 + 18446744073709551616 ^ 4 * c) ∧ Below w.heap.size w w' := by
  have hz := (zero_of_info zeroNum).1
  go_enter Tryd.func74, Tryd.ntmps74
  go_wp2_with fail
  obtain ⟨oA, oB, oR, oO, hbW⟩ := four_blocks w (A4 f) (A4 g) (A4 fun _ => 0) (A4 fun _ => 0) 35
  have hAB : w.heap.size ≠ w.heap.size + 1 + 1 + 1 := by omega
  have hBB : w.heap.size + 1 ≠ w.heap.size + 1 + 1 + 1 := by omega
  have hRB : w.heap.size + 1 + 1 ≠ w.heap.size + 1 + 1 + 1 := by omega
  have hlo : w.heap.size ≤ w.heap.size + 1 + 1 + 1 := by omega
  have hlr : w.heap.size ≤ w.heap.size + 1 + 1 := by omega
  generalize ((((w.alloc (Obj.cells (A4 f) 35)).alloc (Obj.cells (A4 g) 35)).alloc (Obj.cells (A4 fun _ => 0) 35)).alloc (Obj.cells (A4 fun _ => 0) 35)) = W at *
  generalize w.heap.size + 1 + 1 + 1 = bO at *
  generalize w.heap.size + 1 + 1 = bR at *
  generalize w.heap.size + 1 = bB at *
  obtain ⟨bA, HA⟩ : ∃ bA, Hid (w.heap.size = bA) := ⟨_, rfl⟩
  rw [HA.out] at oA hAB hlo hlr hbW ⊢
  go_loopw [8, 6] (fun i cc wr => ∃ (k c : Nat) (h : Nat → Nat), k ≤ 4 ∧ i = .int .i64 (k : Int) ∧ cc = .int .u64 (c : Int) ∧ c ≤ 1 ∧ (∀ i, i < 4 → h i < 18446744073709551616) ∧ Own wr bA (A4 f) 35 ∧ Own wr bB (A4 g) 35 ∧ Own wr bR (A4 fun _ => 0) 35 ∧ Own wr bO (A4 h) 35 ∧ Below bA w wr ∧ Hid (vl f k + vl g k = vl h k + 18446744073709551616 ^ k * c)) (fun i _ _ => 4 - (intOf i).toNat)
  case atStart => exact ⟨0, 0, fun _ => 0, by omega, rfl, rfl, by omega, fun _ _ => by show 0 < 18446744073709551616; decide, oA, oB, oR, oO, hbW, by show _ = _; simp [vl]⟩
  case round =>
    obtain ⟨k, c, h, hk, rfl, rfl, hc, hh, pA, pB, pR, pO, hb, He⟩ := hrel
    have hk0 : (0 : Int) ≤ (k : Int) := by omega
    by_cases hlt : k < 4
    · have hki : (k : Int) < 4 := by omega
      obtain ⟨s, c', hrun, hs, hc', hes⟩ := add64_any (f k) (g k) c (hf k hlt) (hg k hlt) hc
      have Hes := show Hid _ from hes
      have cA := pA.cell (A4_at f k hlt)
      have cB := pB.cell (A4_at g k hlt)
      have cO := pO.cell (A4_at h k hlt)
      have fO := pO.frozen k
      have Hst := show Hid _ from vl_add_step He.out Hes.out
      clear hes
      generalize f k = x at cA hrun
      generalize g k = y at cB hrun
      go_wp2_with fail
      go_region_with (simp only [hrun])
      all_goals go_wp2_with fail
      all_goals (
        refine ⟨⟨k + 1, c', upd h k s, by omega, by go_num, rfl, hc', fun i hi => ?_, pA.setCell_other (Ne.symm hAB) _, pB.setCell_other (Ne.symm hBB) _, pR.setCell_other (Ne.symm hRB) _, ?_, (hb.setCell hlo _).trans ((Below.refl _ _).drew), Hst.out⟩, by simp [intOf]; omega⟩
        · by_cases e : i = k
          · subst e; rw [upd_same]; exact hs
          · rw [upd_other h k s i e]; exact hh i hi
        · have := pO.setCell k (.int .u64 (s : Int))
          rw [A4_set h k s hlt] at this
          exact this)
    · have hki : ¬ (k : Int) < 4 := by omega
      have hk4 : k = 4 := by omega
      have He' := He.out
      rw [hk4] at He'
      have HE := show Hid _ from He'
      clear He' hk4
      go_upto_region 7 with fail
      go_wp2_with (first
        | refine wpList_load_own (by rfl) 35 (.tmp 7) (by rfl) bO (by rfl) (A4 h) _ pO Tryd.underlying35 (by rfl) (by rw [infoNum]; rfl) ?_
        | refine wpList_store_own (by rfl) 35 (.tmp 4) (.tmp 26) (by rfl) bR 0 (A4 h) (by rfl) (by rfl) pR (Nat.le_refl _) infoNum (A4_one _) (by rfl) ?_)
      refine bodyPost_ret (results_own_tmp Tryd.results74 _ _ bR (A4 h) _ (by rfl) (own_setCells pR rfl) Tryd.underlying35 rfl infoNum) rfl ⟨⟨h, c, rfl, hh, hc, HE.out⟩, ?_⟩
      rw [HA.out]
      exact Below.setCells _ _ _ _ hlr hb
set_option maxRecDepth 100000 in
set_option maxHeartbeats 4000000 in
theorem sub_dig (f g : Nat → Nat) (hf : ∀ i, i < 4 → f i < 18446744073709551616) (hg : ∀ i, i < 4 → g i < 18446744073709551616) (w : World) :
    Calls Tryd.prog 72 #[.agg (A4 f), .agg (A4 g)] w fun e w' => (∃ (h : Nat → Nat) (c : Nat), e = .returned (.tuple #[.agg (A4 h), .int .u64 (c : Int)]) ∧ (∀ i, i < 4 → h i < 18446744073709551616) ∧ c ≤ 1 ∧ vl f 4 + 18446744073709551616 ^ 4 * c = vl h 4 + vl g 4) ∧ Below w.heap.size w w' := by
  have hz := (zero_of_info zeroNum).1
  go_enter Tryd.func72, Tryd.ntmps72
  go_wp2_with fail
  obtain ⟨oA, oB, oR, oO, hbW⟩ := four_blocks w (A4 f) (A4 g) (A4 fun _ => 0) (A4 fun _ => 0) 35
  have hAB : w.heap.size ≠ w.heap.size + 1 + 1 + 1 := by omega
  have hBB : w.heap.size + 1 ≠ w.heap.size + 1 + 1 + 1 := by omega
  have hRB : w.heap.size + 1 + 1 ≠ w.heap.size + 1 + 1 + 1 := by omega
  have hlo : w.heap.size ≤ w.heap.size + 1 + 1 + 1 := by omega
  have hlr : w.heap.size ≤ w.heap.size + 1 + 1 := by omega
  generalize ((((w.alloc (Obj.cells (A4 f) 35)).alloc (Obj.cells (A4 g) 35)).alloc (Obj.cells (A4 fun _ => 0) 35)).alloc (Obj.cells (A4 fun _ => 0) 35)) = W at *
  generalize w.heap.size + 1 + 1 + 1 = bO at *
  generalize w.heap.size + 1 + 1 = bR at *
  generalize w.heap.size + 1 = bB at *
  obtain ⟨bA, HA⟩ : ∃ bA, Hid (w.heap.size = bA) := ⟨_, rfl⟩
  rw [HA.out] at oA hAB hlo hlr hbW ⊢
  go_loopw [8, 6] (fun i cc wr => ∃ (k c : Nat) (h : Nat → Nat), k ≤ 4 ∧ i = .int .i64 (k : Int) ∧ cc = .int .u64 (c : Int) ∧ c ≤ 1 ∧ (∀ i, i < 4 → h i < 18446744073709551616) ∧ Own wr bA (A4 f) 35 ∧ Own wr bB (A4 g) 35 ∧ Own wr bR (A4 fun _ => 0) 35 ∧ Own wr bO (A4 h) 35 ∧ Below bA w wr ∧ Hid (vl f k + 18446744073709551616 ^ k * c = vl h k + vl g k)) (fun i _ _ => 4 - (intOf i).toNat)
  case atStart => exact ⟨0, 0, fun _ => 0, by omega, rfl, rfl, by omega, fun _ _ => by show 0 < 18446744073709551616; decide, oA, oB, oR, oO, hbW, by show _ = _; simp [vl]⟩
  case round =>
    obtain ⟨k, c, h, hk, rfl, rfl, hc, hh, pA, pB, pR, pO, hb, He⟩ := hrel
    have hk0 : (0 : Int) ≤ (k : Int) := by omega
    by_cases hlt : k < 4
    · have hki : (k : Int) < 4 := by omega
      obtain ⟨s, c', hrun, hs, hc', hes⟩ := sub64_any (f k) (g k) c (hf k hlt) (hg k hlt) hc
      have Hes := show Hid _ from hes
      have cA := pA.cell (A4_at f k hlt)
      have cB := pB.cell (A4_at g k hlt)
      have cO := pO.cell (A4_at h k hlt)
      have fO := pO.frozen k
      have Hst := show Hid _ from vl_sub_step He.out Hes.out
      clear hes
      generalize f k = x at cA hrun
      generalize g k = y at cB hrun
      go_wp2_with fail
      go_region_with (simp only [hrun])
      all_goals go_wp2_with fail
      all_goals (
        refine ⟨⟨k + 1, c', upd h k s, by omega, by go_num, rfl, hc', fun i hi => ?_, pA.setCell_other (Ne.symm hAB) _, pB.setCell_other (Ne.symm hBB) _, pR.setCell_other (Ne.symm hRB) _, ?_, (hb.setCell hlo _).trans ((Below.refl _ _).drew), Hst.out⟩, by simp [intOf]; omega⟩
        · by_cases e : i = k
          · subst e; rw [upd_same]; exact hs
          · rw [upd_other h k s i e]; exact hh i hi
        · have := pO.setCell k (.int .u64 (s : Int))
          rw [A4_set h k s hlt] at this
          exact this)
    · have hki : ¬ (k : Int) < 4 := by omega
      have hk4 : k = 4 := by omega
      have He' := He.out
      rw [hk4] at He'
      have HE := show Hid _ from He'
      clear He' hk4
      go_upto_region 7 with fail
      go_wp2_with (first
        | refine wpList_load_own (by rfl) 35 (.tmp 7) (by rfl) bO (by rfl) (A4 h) _ pO Tryd.underlying35 (by rfl) (by rw [infoNum]; rfl) ?_
        | refine wpList_store_own (by rfl) 35 (.tmp 4) (.tmp 26) (by rfl) bR 0 (A4 h) (by rfl) (by rfl) pR (Nat.le_refl _) infoNum (A4_one _) (by rfl) ?_)
      refine bodyPost_ret (results_own_tmp Tryd.results72 _ _ bR (A4 h) _ (by rfl) (own_setCells pR rfl) Tryd.underlying35 rfl infoNum) rfl ⟨⟨h, c, rfl, hh, hc, HE.out⟩, ?_⟩
      rw [HA.out]
      exact Below.setCells _ _ _ _ hlr hb
end Go.Proofs.YtfkcphbbabaefaaDoor
namespace Go.Proofs.YtfkcphbbabaefaaDoor
open Go.RowKit
theorem add_any (a b : Nat) (ha : a < R256) (hb : b < R256) (w : World) :
    Calls Tryd.prog 74 #[.agg (numA a), .agg (numA b)] w fun e w' => (∃ d c : Nat, e = .returned (.tuple #[.agg (numA d), .int .u64 (c : Int)]) ∧ d < R256 ∧ c ≤ 1 ∧ a + b = d + R256 * c) ∧ Below w.heap.size w w' := by
  refine (add_dig (dig a) (dig b) (fun i _ => dig_lt a i) (fun i _ => dig_lt b i) w).mono ?_
  rintro e w' ⟨⟨h, c, rfl, hh, hc, he⟩, hB⟩
  rw [vl_num a ha, vl_num b hb, pow4] at he
  exact ⟨⟨vl h 4, c, by rw [A4_num h hh], vl4_lt h hh, hc, he⟩, hB⟩
theorem sub_any (a b : Nat) (ha : a < R256) (hb : b < R256) (w : World) :
    Calls Tryd.prog 72 #[.agg (numA a), .agg (numA b)] w fun e w' => (∃ d c : Nat, e = .returned (.tuple #[.agg (numA d), .int .u64 (c : Int)]) ∧ d < R256 ∧ c ≤ 1 ∧ a + R256 * c = d + b) ∧ Below w.heap.size w w' := by
  refine (sub_dig (dig a) (dig b) (fun i _ => dig_lt a i) (fun i _ => dig_lt b i) w).mono ?_
  rintro e w' ⟨⟨h, c, rfl, hh, hc, he⟩, hB⟩
  rw [vl_num a ha, vl_num b hb, pow4] at he
  exact ⟨⟨vl h 4, c, by rw [A4_num h hh], vl4_lt h hh, hc, he⟩, hB⟩
theorem sub_big {a b y : Nat} (ha : a < R256) (hb : b < R256) (hy : a = y + b) (w : World) :
    Calls Tryd.prog 72 #[.agg (numA a), .agg (numA b)] w fun e w' => e = .returned (.tuple #[.agg (numA y), .int .u64 0]) ∧ Below w.heap.size w w' := by
  refine (sub_any a b ha hb w).mono ?_
  rintro e w' ⟨⟨d, c, rfl, hd, hc, he⟩, hB⟩
  have : c = 0 ∨ c = 1 := by omega
  rcases this with rfl | rfl
  · obtain rfl : d = y := by omega
    exact ⟨rfl, hB⟩
  · omega
set_option maxRecDepth 100000 in
set_option maxHeartbeats 1000000 in
theorem less_any (a b : Nat) (ha : a < R256) (hb : b < R256) (w : World) : Calls Tryd.prog 42 #[.agg (numA a), .agg (numA b)] w fun e w' => e = .returned (.bool (decide (a < b))) ∧ Below w.heap.size w w' := by
  have hz := (zero_of_info zeroNum).1
  go_enter Tryd.func42, Tryd.ntmps42
  go_upto_region 1 with fail
  have oA := (own_new w (numA a) 35).alloc (.cells (numA b) 35)
  have oB := own_new (w.alloc (.cells (numA a) 35)) (numA b) 35
  rw [World.size_alloc] at oB
  have hbW := bel (alloc_below w (.cells (numA a) 35)) (alloc_below _ (.cells (numA b) 35))
  generalize (w.alloc (.cells (numA a) 35)).alloc (.cells (numA b) 35) = W at *
  go_wp2_with (first
    | refine wpList_load_own (by rfl) 35 (.tmp 2) (by rfl) w.heap.size (by rfl) (numA a) _ oA Tryd.underlying35 (by rfl) (numA_info a) ?_
    | refine wpList_load_own (by rfl) 35 (.tmp 3) (by rfl) (w.heap.size + 1) (by rfl) (numA b) _ oB Tryd.underlying35 (by rfl) (numA_info b) ?_)
  refine (sub_any a b ha hb W).mono ?_
  rintro e w1 ⟨⟨d, c, rfl, hd, hc, he⟩, hb1⟩
  have hb2 := bel hbW hb1
  have hbo := bor_lt hd hc he
  clear he
  obtain ⟨l, Hl⟩ : ∃ l, Hid (decide (a < b) = l) := ⟨_, rfl⟩
  rw [Hl.out] at hbo
  clear hbW hb1 oA oB
  go_wp2_with (refine wpList_store_new (by rfl) 35 (.tmp 5) (.tmp 11) (by rfl) _ (numA d) (by rfl) (by rfl) (numA_info d) (by rfl) (numA_one d) (by rfl) ?_)
  go_ret
  rw [Hl.out]
  exact ⟨rfl, bel hb2 (alloc_below _ _)⟩
end Go.Proofs.YtfkcphbbabaefaaDoor
namespace Go.Proofs.YtfkcphbbabaefaaDoor
open Go.RowKit
set_option maxRecDepth 100000 in
theorem P_any (w : World) : Calls Tryd.prog 44 #[] w fun e w' => e = .returned (.agg (numA pp)) ∧ Below w.heap.size w w' := by
  have hz := (zero_of_info zeroLit).1
  obtain ⟨A, HA⟩ : ∃ A, Hid (numA pp = A) := ⟨_, rfl⟩
  have hc : Hid (A = _) := HA.out.symm.trans P_cells
  have hi : (Tryd.prog.info? 35).map (·.size) = some A.size := by rw [← HA.out]; exact numA_info pp
  have h1 : A.all (·.oneCell') = true := by rw [← HA.out]; exact numA_one pp
  have hs : 4 = A.size := by rw [← HA.out]; exact (numA_size pp).symm
  rw [HA.out]
  clear HA
  go_enter Tryd.func44, Tryd.ntmps44
  go_upto_region 1 with fail
  go_wp2_with (refine wpList_store_new (by rfl) 35 (.tmp 0) (.tmp 1) (by rfl) _ A (by rfl) (by rw [hc.out]; rfl) hi hs h1 (by rfl) ?_)
  refine bodyPost_ret (results_own Tryd.results44 _ _ w.heap.size A _ (by rfl) (own_new w A 35) Tryd.underlying35 rfl hi) rfl ⟨rfl, alloc_below _ _⟩
end Go.Proofs.YtfkcphbbabaefaaDoor
namespace Go.Proofs.YtfkcphbbabaefaaDoor
open Go.RowKit
def valT (x : Nat) : Nat → Value
  | 0 => .agg (numA x)
  | 1 => .agg (numA pp)
  | 2 => .bool (decide (x < pp))
  | _ => .bool (!decide (x < pp))
def valS (x y : Nat) : Nat → Value
  | 0 => .agg (numA x)
  | 1 => .agg (numA pp)
  | 4 => .agg (numA y)
  | 5 => .int .u64 0
  | _ => .tuple #[.agg (numA y), .int .u64 0]
set_option maxRecDepth 100000 in
set_option maxHeartbeats 4000000 in
theorem mod_any (a : Nat) (ha : a < R256) (w : World) : Calls Tryd.prog 75 #[.agg (numA a)] w fun e w' => e = .returned (.agg (numA (a % pp))) ∧ Below w.heap.size w w' := by
  have hz := (zero_of_info zeroNum).1
  go_enter Tryd.func75, Tryd.ntmps75
  go_wp2_with fail
  have hK0 := ((Kp.nil w).alloc (numA a) 35).alloc (numA 0) 35
  rw [World.size_alloc] at hK0
  rw [← zero_num]
  generalize (w.alloc (.cells (numA a) 35)).alloc (.cells (numA 0) 35) = W at *
  obtain ⟨bX, HX⟩ : ∃ bX, Hid (w.heap.size = bX) := ⟨_, rfl⟩
  obtain ⟨bR, HR⟩ : ∃ bR, Hid (bX + 1 = bR) := ⟨_, rfl⟩
  have hne : bX ≠ bR := by have := HR.out; omega
  have hle : w.heap.size ≤ bX := by rw [HX.out]; omega
  have hle' : w.heap.size ≤ bR := by have := HR.out; omega
  rw [HX.out, HR.out] at hK0 ⊢
  go_loopw [3] (fun i wr => ∃ (k x : Nat), k ≤ 3 ∧ i = .int .i64 (k : Int) ∧ x < R256 ∧ Hid (x % pp = a % pp ∧ (x < pp ∨ x + k * pp ≤ a)) ∧ Kp [(bX, numA x, 35), (bR, numA 0, 35)] w wr) (fun i _ => 3 - (intOf i).toNat)
  case atStart => exact ⟨0, a, by omega, rfl, ha, ⟨rfl, .inr (by omega)⟩, hK0.sub (by simp)⟩
  case round =>
    obtain ⟨k, x, hk, rfl, hx, Hm, hKr⟩ := hrel
    have hk0 : (0 : Int) ≤ (k : Int) := by omega
    by_cases hlt : k < 3
    · have hki : (k : Int) < 3 := by omega
      go_upto_region 4 with fail
      refine wp_region_vals 19 (by kernel_rfl) (by kernel_rfl) (by rfl) (valT x) (fun _ => Kp [(bX, numA x, 35), (bR, numA 0, 35)] w) hKr.drew ?_ ?_
      · intro L ac wc i o hF hLi ho hd K hK
        rcases i with _ | _ | _ | _ | i
        · have ho' := ho
          obtain rfl := Option.some.inj ho
          have f1 : ac.tmps.getD 1 undef = .pointer (some ⟨bX, 0, none⟩) := slotv hF 0 hLi 1 (by kernel_rfl)
          refine step_do ho' (wanted_free rfl) ?_
          exact wp_load_own 35 (.tmp 1) rfl bX f1 (numA x) _ 35 (hF.j.at bX (numA x) 35 (by simp)) Tryd.underlying35 rfl (numA_info x) (hK _ _ (.inr rfl) hF.j)
        · have ho' := ho
          obtain rfl := Option.some.inj ho
          refine step_do ho' (wanted_free rfl) ?_
          unfold Oper.wp
          go_simp
          refine (P_any _).mono ?_
          rintro e w' ⟨rfl, hB⟩
          exact hK _ _ (.inr rfl) (hF.j.below hB)
        · have ho' := ho
          obtain rfl := Option.some.inj ho
          have f8 : ac.tmps.getD 8 undef = .agg (numA x) := valv hF hd 0 rfl rfl (by kernel_rfl)
          have f9 : ac.tmps.getD 9 undef = .agg (numA pp) := valv hF hd 1 rfl rfl (by kernel_rfl)
          refine step_do ho' (wanted_free rfl) ?_
          unfold Oper.wp
          go_simp
          refine (less_any x pp hx (by decide) _).mono ?_
          rintro e w' ⟨rfl, hB⟩
          exact hK _ _ (.inr rfl) (hF.j.below hB)
        · have ho' := ho
          obtain rfl := Option.some.inj ho
          have f10 : ac.tmps.getD 10 undef = .bool (decide (x < pp)) := valv hF hd 2 rfl rfl (by kernel_rfl)
          refine step_do ho' (wanted_free rfl) ?_
          unfold Oper.wp
          go_simp
          exact hK _ _ (.inr rfl) hF.j
        · cases ho
      · intro L wq hL hKq
        simp only [putAll, valT]
        by_cases hxp : x < pp
        · have hd : decide (x < pp) = true := decide_eq_true hxp
          have Hxp := show Hid _ from hxp
          rw [hd]
          clear hxp hd
          go_wp2_with fail
          exact ⟨⟨k + 1, x, by omega, by go_num, hx, ⟨Hm.out.1, .inl Hxp.out⟩, hKq⟩, by simp [intOf]; omega⟩
        · have hd : decide (x < pp) = false := decide_eq_false hxp
          obtain ⟨y, Hy⟩ : ∃ y, Hid (x = y + pp) := ⟨x - pp, by show _ = _; omega⟩
          rw [hd]
          clear hxp hd
          go_upto_region 5 with fail
          refine wp_region_vals 19 (by kernel_rfl) (by kernel_rfl) (by rfl) (valS x y) (fun L => Kp [(bX, if L 6 = true then numA y else numA x, 35), (bR, numA 0, 35)] w) hKq.drew ?_ ?_
          · intro L ac wc i o hF hLi ho hd K hK
            rcases i with _ | _ | _ | _ | _ | _ | _ | i
            · have ho' := ho
              obtain rfl := Option.some.inj ho
              have f1 : ac.tmps.getD 1 undef = .pointer (some ⟨bX, 0, none⟩) := slotv hF 0 hLi 1 (by kernel_rfl)
              refine step_do ho' (wanted_free rfl) ?_
              have hn6 := notyet hF 0 hLi 6 rfl (by kernel_rfl)
              have hj := hF.j
              rw [hn6] at hj
              exact wp_load_own 35 (.tmp 1) rfl bX f1 (numA x) _ 35 (hj.at bX (numA x) 35 (by simp)) Tryd.underlying35 rfl (numA_info x) (hK _ _ (.inr rfl) hF.j)
            · have ho' := ho
              obtain rfl := Option.some.inj ho
              refine step_do ho' (wanted_free rfl) ?_
              unfold Oper.wp
              go_simp
              refine (P_any _).mono ?_
              rintro e w' ⟨rfl, hB⟩
              exact hK _ _ (.inr rfl) (hF.j.below hB)
            · have ho' := ho
              obtain rfl := Option.some.inj ho
              have f13 : ac.tmps.getD 13 undef = .agg (numA x) := valv hF hd 0 rfl rfl (by kernel_rfl)
              have f14 : ac.tmps.getD 14 undef = .agg (numA pp) := valv hF hd 1 rfl rfl (by kernel_rfl)
              refine step_do ho' (wanted_free rfl) ?_
              unfold Oper.wp
              go_simp
              refine (sub_big hx (by decide) Hy.out _).mono ?_
              rintro e w' ⟨rfl, hB⟩
              exact hK _ _ (.inr rfl) (hF.j.below hB)
            · have ho' := ho
              obtain rfl := Option.some.inj ho
              have f15 : ac.tmps.getD 15 undef = .tuple #[.agg (numA y), .int .u64 0] := valv hF hd 2 rfl rfl (by kernel_rfl)
              refine step_do ho' (wanted_free rfl) ?_
              unfold Oper.wp
              go_simp
              exact hK _ _ (.inr rfl) hF.j
            · have ho' := ho
              obtain rfl := Option.some.inj ho
              have f12 : ac.tmps.getD 12 undef = .tuple #[.agg (numA y), .int .u64 0] := valv hF hd 3 rfl rfl (by kernel_rfl)
              refine step_do ho' (wanted_free rfl) ?_
              unfold Oper.wp
              go_simp
              exact hK _ _ (.inr rfl) hF.j
            · have ho' := ho
              obtain rfl := Option.some.inj ho
              have f12 : ac.tmps.getD 12 undef = .tuple #[.agg (numA y), .int .u64 0] := valv hF hd 3 rfl rfl (by kernel_rfl)
              refine step_do ho' (wanted_free rfl) ?_
              unfold Oper.wp
              go_simp
              exact hK _ _ (.inr rfl) hF.j
            · have ho' := ho
              obtain rfl := Option.some.inj ho
              have f1 : ac.tmps.getD 1 undef = .pointer (some ⟨bX, 0, none⟩) := slotv hF 6 hLi 1 (by kernel_rfl)
              have f16 : ac.tmps.getD 16 undef = .agg (numA y) := valv hF hd 4 rfl rfl (by kernel_rfl)
              refine step_do ho' (wanted_free rfl) ?_
              have hj := hF.j
              rw [hLi] at hj
              have hj := hj
              refine wp_store_own 35 (.tmp 1) (.tmp 16) rfl bX (numA y) f1 f16 (hj.at bX (numA x) 35 (by simp)) rfl (numA_info y) (numA_one y) rfl ?_
              exact hK undef _ (.inl rfl) (Kp.set hj (by simp; omega) (by omega) rfl)
            · cases ho
          · intro L wz hL hKz
            have h6 := hL 6 (by decide)
            rw [h6] at hKz
            simp only [putAll, valS]
            go_wp2_with fail
            have h1 := Hm.out
            have h2 := Hy.out
            exact ⟨⟨k + 1, y, by omega, by go_num, by omega, ⟨by rw [← h1.1, h2, Nat.add_mod_right], .inr (by rw [Nat.add_mul]; omega)⟩, hKz⟩, by simp [intOf]; omega⟩
    · have hki : ¬ (k : Int) < 3 := by omega
      have Hx : Hid (x = a % pp) := by
        show _ = _
        have h1 := Hm.out
        have h2 := R256_lt
        have hk3 : k = 3 := by omega
        rw [hk3] at h1
        rw [← h1.1, Nat.mod_eq_of_lt]
        rcases h1.2 with h | h
        · exact h
        · omega
      go_upto_region 6 with fail
      go_wp2_with (first
        | refine wpList_load_own (by rfl) 35 (.tmp 1) (by rfl) bX (by rfl) (numA x) _ (hKr.at bX (numA x) 35 (by simp)) Tryd.underlying35 (by rfl) (numA_info x) ?_
        | refine wpList_store_own (by rfl) 35 (.tmp 2) (.tmp 18) (by rfl) bR 0 (numA x) (by rfl) (by rfl) (hKr.at bR (numA 0) 35 (by simp)) (Nat.le_refl _) (numA_info x) (numA_one x) (by rfl) ?_)
      refine bodyPost_ret (results_own Tryd.results75 _ _ bR (numA x) _ (by rfl) (own_setCells (hKr.at bR (numA 0) 35 (by simp)) rfl) Tryd.underlying35 rfl (numA_info x)) rfl ⟨by rw [Hx.out], ?_⟩
      exact Below.setCells _ _ _ _ hle' hKr.2
end Go.Proofs.YtfkcphbbabaefaaDoor
