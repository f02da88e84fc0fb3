/- Of the texts F11: what the card of this claim reaches. -/
import Derived.Test.YtfkcphbbabaefaaGreatDoorXD7
namespace Go.Proofs.YtfkcphbbabaefaaGreatDoor
open Go.RowKit
def FInv (T : World → Prop) : Prop := ∀ a, a < R256 → ∀ w, T w → Calls Tryz.prog 73 #[.agg (B32 (bdig a))] w fun x w' => x = .returned (.agg (B32 (bdig (finv a)))) ∧ Below w.heap.size w w'
theorem finvA {T : World → Prop} (hI : FInv T) {a c : Nat} (ha : a < R256) (hc : finv a = c) (w : World) (hT : T w) : Calls Tryz.prog 73 #[.agg (B32 (bdig a))] w fun x w' => x = .returned (.agg (B32 (bdig c))) ∧ Below w.heap.size w w' := by
  rw [← hc]; exact hI a ha w hT
theorem inv_exp : (2 ^ 250 - 1) * 2 ^ 5 + (1 * 2 ^ 1 * 2 ^ 2 + 1 * 2 ^ 1 + 1) = pp - 2 := by decide
theorem inv_power {a o s e : Nat} (ho : tones a 250 = o) (hs : tsq a 1 = s) (he : tmul (tmul (tsq s 2) s) a = e) : tmul (tsq o 5) e % pp = finv a := by
  have h1 : PM a (2 ^ 250 - 1) o := by rw [← ho]; exact tones_pow a 250 (by decide)
  have h2 : PM a (1 * 2 ^ 1) s := by rw [← hs]; exact PM.sq (PM.one a) 1
  have h3 : PM a (1 * 2 ^ 1 * 2 ^ 2 + 1 * 2 ^ 1 + 1) e := by rw [← he]; exact PM.mul (PM.mul (PM.sq h2 2) h2) (PM.one a)
  have h4 := PM.mul (PM.sq h1 5) h3
  rw [inv_exp] at h4
  exact h4
def factInv (a s : Nat) : Nat → Value → Prop
  | 0, v => v = .agg (numA (s))
  | 1, v => v = .agg (numA (tsq s 2))
  | 2, v => v = .agg (numA (s))
  | 3, v => v = .agg (numA (tmul (tsq s 2) s))
  | 4, v => v = .agg (numA (a))
  | 5, v => v = .agg (numA (tmul (tmul (tsq s 2) s) a))
  | 6, v => ∃ g, v = .pointer (some ⟨g, 0, none⟩)
  | _, _ => True
def valInv (a o e : Nat) : Nat → Value
  | 0 => .agg (numA (a))
  | 1 => .agg (numA (o))
  | 2 => .agg (numA (tsq o 5))
  | 3 => .agg (numA (e))
  | 4 => .agg (numA (tmul (tsq o 5) e))
  | 5 => .agg (B32 (bdig (tmul (tsq o 5) e % pp)))
  | _ => undef
set_option maxRecDepth 100000 in
set_option maxHeartbeats 16000000 in
theorem finv_p : FInv TP := by
  intro a ha w hT
  have hz := (zero_of_info zeroB32).1
  have hz2 := (zero_of_info zeroFN).1
  have hs := tsq_lt ha 1
  obtain ⟨s, Hs⟩ : ∃ s, Hid (tsq a 1 = s) := ⟨_, rfl⟩
  rw [Hs.out] at hs
  have he := tmul_lt (tmul_lt (tsq_lt hs 2) hs) ha
  obtain ⟨e, He⟩ : ∃ e, Hid (tmul (tmul (tsq s 2) s) a = e) := ⟨_, rfl⟩
  rw [He.out] at he
  have ho5 := tones_lt ha 250
  obtain ⟨o, Ho⟩ : ∃ o, Hid (tones a 250 = o) := ⟨_, rfl⟩
  rw [Ho.out] at ho5
  have Hfin : Hid (tmul (tsq o 5) e % pp = finv a) := inv_power Ho.out Hs.out He.out
  obtain ⟨x, Hx⟩ : ∃ x, Hid (finv a = x) := ⟨_, rfl⟩
  rw [Hx.out]
  go_enter Tryz.func73, Tryz.ntmps73
  go_upto_region 1 with fail
  have hK := ((Kp.nil w).alloc (B32 (bdig a)) 22).alloc (B32 fun _ => 0) 22
  rw [World.size_alloc] at hK
  generalize (w.alloc (.cells (B32 (bdig a)) 22)).alloc (.cells (B32 fun _ => 0) 22) = W at *
  obtain ⟨bA, H1⟩ : ∃ bA, Hid (w.heap.size = bA) := ⟨_, rfl⟩
  obtain ⟨bR, H2⟩ : ∃ bR, Hid (bA + 1 = bR) := ⟨_, rfl⟩
  have hleR : w.heap.size ≤ bR := by have := H1.out; have := H2.out; omega
  rw [H1.out, H2.out] at hK ⊢
  go_wp2_with (refine wpList_load_own (by rfl) 22 (.tmp 1) (by rfl) bA (by rfl) (B32 (bdig a)) _ hK.h2 Tryz.underlying22 (by rfl) (B32_info _) ?_)
  refine (read_any a W).mono ?_
  rintro r W1 ⟨rfl, bw⟩
  have hK := hK.below bw
  have lR := hK.h1.lt
  go_upto_region 2 with (refine wpList_store_new (by rfl) 112 (.tmp 3) (.tmp 7) (by rfl) _ (numA a) (by rfl) (by rfl) infoFN rfl (numA_one _) (by rfl) ?_)
  have hK := hK.alloc (numA a) 112
  generalize W1.alloc (.cells (numA a) 112) = W2 at *
  obtain ⟨bN, H3⟩ : ∃ bN, Hid (W1.heap.size = bN) := ⟨_, rfl⟩
  rw [H3.out] at hK lR ⊢
  have hK : Kp [(bN, numA a, 112), (bR, B32 fun _ => 0, 22)] w W2 := hK.sub (by simp)
  go_wp2_with (refine wpList_load_own (by rfl) 112 (.tmp 3) (by rfl) bN (by rfl) (numA a) _ hK.h1 Tryz.underlying112 (by rfl) infoFN ?_)
  refine (squared_any a 1 ha (by decide) W2).mono ?_
  rintro r W3 ⟨rfl, bw⟩
  rw [Hs.out]
  have hK := hK.below bw
  go_upto_region 3 with (refine wpList_store_new (by rfl) 112 (.tmp 4) (.tmp 9) (by rfl) _ (numA s) (by rfl) (by rfl) infoFN rfl (numA_one _) (by rfl) ?_)
  have hK := hK.alloc (numA s) 112
  generalize W3.alloc (.cells (numA s) 112) = W4 at *
  obtain ⟨bS, H4⟩ : ∃ bS, Hid (W3.heap.size = bS) := ⟨_, rfl⟩
  rw [H4.out] at hK ⊢
  refine wp_region_told 22 (by kernel_rfl) (by kernel_rfl) (by rfl) (factInv a s) (fun L vs => Mk [(bS, numA s, 112), (bN, numA a, 112), (bR, B32 fun _ => 0, 22)] w (Q4 0 0 0 0) (numA (tmul (tmul (tsq s 2) s) a)) 112 (L 6) (L 7) (vs 6)) (fun _ => Mk.drew hK) ?_ ?_
  · intro L vs ac wc i o' hF hLi ho hd K hK
    rcases i with _ | _ | _ | _ | _ | _ | _ | _ | i
    · have ho' := ho
      obtain rfl := Option.some.inj ho
      have f4 : ac.tmps.getD 4 undef = .pointer (some ⟨bS, 0, none⟩) := slott hF 0 hLi 4 (by kernel_rfl)
      refine step_do ho' (wanted_free rfl) ?_
      exact wp_load_own 112 (.tmp 4) rfl bS f4 (numA s) _ 112 hF.j.1.h1 Tryz.underlying112 rfl infoFN (hK _ _ (.inr rfl) hF.j)
    · have ho' := ho
      obtain rfl := Option.some.inj ho
      have f10 : ac.tmps.getD 10 undef = .agg (numA (s)) := (factt hF hd 0 rfl rfl (by kernel_rfl)).1.trans (factt hF hd 0 rfl rfl (by kernel_rfl)).2
      refine step_do ho' (wanted_free rfl) ?_
      unfold Oper.wp
      go_simp
      refine (squared_any s 2 hs (by decide) _).mono ?_
      rintro e w' ⟨rfl, hB⟩
      exact hK _ _ (.inr rfl) (hF.j.below hB)
    · have ho' := ho
      obtain rfl := Option.some.inj ho
      have f4 : ac.tmps.getD 4 undef = .pointer (some ⟨bS, 0, none⟩) := slott hF 2 hLi 4 (by kernel_rfl)
      refine step_do ho' (wanted_free rfl) ?_
      exact wp_load_own 112 (.tmp 4) rfl bS f4 (numA s) _ 112 hF.j.1.h1 Tryz.underlying112 rfl infoFN (hK _ _ (.inr rfl) hF.j)
    · have ho' := ho
      obtain rfl := Option.some.inj ho
      have f11 : ac.tmps.getD 11 undef = .agg (numA (tsq s 2)) := (factt hF hd 1 rfl rfl (by kernel_rfl)).1.trans (factt hF hd 1 rfl rfl (by kernel_rfl)).2
      have f12 : ac.tmps.getD 12 undef = .agg (numA (s)) := (factt hF hd 2 rfl rfl (by kernel_rfl)).1.trans (factt hF hd 2 rfl rfl (by kernel_rfl)).2
      refine step_do ho' (wanted_free rfl) ?_
      unfold Oper.wp
      go_simp
      refine (ptimes_any _ _ (tsq_lt hs 2) hs _).mono ?_
      rintro e w' ⟨rfl, hB⟩
      exact hK _ _ (.inr rfl) (hF.j.below hB)
    · have ho' := ho
      obtain rfl := Option.some.inj ho
      have f3 : ac.tmps.getD 3 undef = .pointer (some ⟨bN, 0, none⟩) := slott hF 4 hLi 3 (by kernel_rfl)
      refine step_do ho' (wanted_free rfl) ?_
      exact wp_load_own 112 (.tmp 3) rfl bN f3 (numA a) _ 112 hF.j.1.h2 Tryz.underlying112 rfl infoFN (hK _ _ (.inr rfl) hF.j)
    · have ho' := ho
      obtain rfl := Option.some.inj ho
      have f13 : ac.tmps.getD 13 undef = .agg (numA (tmul (tsq s 2) s)) := (factt hF hd 3 rfl rfl (by kernel_rfl)).1.trans (factt hF hd 3 rfl rfl (by kernel_rfl)).2
      have f14 : ac.tmps.getD 14 undef = .agg (numA (a)) := (factt hF hd 4 rfl rfl (by kernel_rfl)).1.trans (factt hF hd 4 rfl rfl (by kernel_rfl)).2
      refine step_do ho' (wanted_free rfl) ?_
      unfold Oper.wp
      go_simp
      refine (ptimes_any _ _ (tmul_lt (tsq_lt hs 2) hs) ha _).mono ?_
      rintro e w' ⟨rfl, hB⟩
      exact hK _ _ (.inr rfl) (hF.j.below hB)
    · have ho' := ho
      obtain rfl := Option.some.inj ho
      refine step_do ho' (wanted_free rfl) ?_
      have hs := notyett hF 6 hLi 7 rfl (by kernel_rfl)
      unfold Oper.wp
      go_simp
      rw [Q4_zero]
      exact hK _ _ (.inr ⟨_, rfl⟩) (Mk.alloc hF.j.1 hs)
    · have ho' := ho
      obtain rfl := Option.some.inj ho
      have f15 : ac.tmps.getD 15 undef = .agg (numA (tmul (tmul (tsq s 2) s) a)) := (factt hF hd 5 rfl rfl (by kernel_rfl)).1.trans (factt hF hd 5 rfl rfl (by kernel_rfl)).2
      refine step_do ho' (wanted_free rfl) ?_
      obtain ⟨fg, g, hg⟩ := factt hF hd 6 rfl rfl (by kernel_rfl)
      have hm := dep hd 6 (by kernel_rfl)
      have hj := hF.j
      rw [hg] at fg
      have hj2 := hj.at hm hg hLi
      refine wp_store_own 112 (.tmp 5) (.tmp 15) rfl g (numA (tmul (tmul (tsq s 2) s) a)) fg f15 hj2.2.2 rfl infoFN (numA_one _) rfl ?_
      exact hK undef _ (.inl rfl) (hj.store hm hg hLi rfl)
    · cases ho
  · intro L vs wq hL hJ hf
    obtain ⟨g, hg⟩ := hf 6 _ _ rfl rfl
    obtain ⟨hK, hgl, hgn⟩ := hJ.done (hL 6 (by decide)) hg (hL 7 (by decide))
    have e0 : vs 0 = _ := hf 0 _ _ rfl rfl
    have e1 : vs 1 = _ := hf 1 _ _ rfl rfl
    have e2 : vs 2 = _ := hf 2 _ _ rfl rfl
    have e3 : vs 3 = _ := hf 3 _ _ rfl rfl
    have e4 : vs 4 = _ := hf 4 _ _ rfl rfl
    have e5 : vs 5 = _ := hf 5 _ _ rfl rfl
    simp only [putAll, Nat.zero_add, Nat.reduceAdd, e0, e1, e2, e3, e4, e5, hg, Act.put, List.setIfInBounds_toArray, List.set_cons_succ, List.set_cons_zero]
    rw [He.out] at hK ⊢
    have ngR : bR ≠ g := hgn (bR, B32 fun _ => 0, 22) (by simp)
    have hK : Kp [(bR, B32 fun _ => 0, 22), (g, numA e, 112), (bN, numA a, 112)] w wq := hK.sub (by simp)
    go_upto_region 4 with fail
    refine wp_region_vals 22 (by kernel_rfl) (by kernel_rfl) (by rfl) (valInv a o e) (fun L => Kp [(bR, if L 6 then B32 (bdig (tmul (tsq o 5) e % pp)) else B32 fun _ => 0, 22), (g, numA e, 112), (bN, numA a, 112)] w) hK.drew ?_ ?_
    · intro L ac wc i o' hF hLi ho hd K hK
      rcases i with _ | _ | _ | _ | _ | _ | _ | i
      · have ho' := ho
        obtain rfl := Option.some.inj ho
        have f3 : ac.tmps.getD 3 undef = .pointer (some ⟨bN, 0, none⟩) := slotv hF 0 hLi 3 (by kernel_rfl)
        refine step_do ho' (wanted_free rfl) ?_
        exact wp_load_own 112 (.tmp 3) rfl bN f3 (numA a) _ 112 hF.j.h3 Tryz.underlying112 rfl infoFN (hK _ _ (.inr rfl) hF.j)
      · have ho' := ho
        obtain rfl := Option.some.inj ho
        have f16 : ac.tmps.getD 16 undef = .agg (numA (a)) := valv hF hd 0 rfl rfl (by kernel_rfl)
        refine step_do ho' (wanted_free rfl) ?_
        unfold Oper.wp
        go_simp
        refine (ones_any a ha 250 (by decide) (by decide) _).mono ?_
        rintro e' w' ⟨rfl, hB⟩
        rw [Ho.out]
        exact hK _ _ (.inr rfl) (hF.j.below hB)
      · have ho' := ho
        obtain rfl := Option.some.inj ho
        have f17 : ac.tmps.getD 17 undef = .agg (numA (o)) := valv hF hd 1 rfl rfl (by kernel_rfl)
        refine step_do ho' (wanted_free rfl) ?_
        unfold Oper.wp
        go_simp
        refine (squared_any o 5 ho5 (by decide) _).mono ?_
        rintro e w' ⟨rfl, hB⟩
        exact hK _ _ (.inr rfl) (hF.j.below hB)
      · have ho' := ho
        obtain rfl := Option.some.inj ho
        have f5 : ac.tmps.getD 5 undef = .pointer (some ⟨g, 0, none⟩) := slotv hF 3 hLi 5 (by kernel_rfl)
        refine step_do ho' (wanted_free rfl) ?_
        exact wp_load_own 112 (.tmp 5) rfl g f5 (numA e) _ 112 hF.j.h2 Tryz.underlying112 rfl infoFN (hK _ _ (.inr rfl) hF.j)
      · have ho' := ho
        obtain rfl := Option.some.inj ho
        have f18 : ac.tmps.getD 18 undef = .agg (numA (tsq o 5)) := valv hF hd 2 rfl rfl (by kernel_rfl)
        have f19 : ac.tmps.getD 19 undef = .agg (numA (e)) := valv hF hd 3 rfl rfl (by kernel_rfl)
        refine step_do ho' (wanted_free rfl) ?_
        unfold Oper.wp
        go_simp
        refine (ptimes_any _ _ (tsq_lt ho5 5) he _).mono ?_
        rintro e w' ⟨rfl, hB⟩
        exact hK _ _ (.inr rfl) (hF.j.below hB)
      · have ho' := ho
        obtain rfl := Option.some.inj ho
        have f20 : ac.tmps.getD 20 undef = .agg (numA (tmul (tsq o 5) e)) := valv hF hd 4 rfl rfl (by kernel_rfl)
        refine step_do ho' (wanted_free rfl) ?_
        unfold Oper.wp
        go_simp
        refine (write_any _ (tmul_lt (tsq_lt ho5 5) he) _ (hT.kp hF.j)).mono ?_
        rintro e w' ⟨rfl, hB⟩
        exact hK _ _ (.inr rfl) (hF.j.below hB)
      · have ho' := ho
        obtain rfl := Option.some.inj ho
        have f2 : ac.tmps.getD 2 undef = .pointer (some ⟨bR, 0, none⟩) := slotv hF 6 hLi 2 (by kernel_rfl)
        have f21 : ac.tmps.getD 21 undef = .agg (B32 (bdig (tmul (tsq o 5) e % pp))) := valv hF hd 5 rfl rfl (by kernel_rfl)
        refine step_do ho' (wanted_free rfl) ?_
        have hj := hF.j
        rw [hLi] at hj
        refine wp_store_own 22 (.tmp 2) (.tmp 21) rfl bR (B32 (bdig (tmul (tsq o 5) e % pp))) f2 f21 hj.h1 (B32_sizes _ _) (B32_info _) (B32_one _) rfl ?_
        exact hK undef _ (.inl rfl) (Kp.set hj (by simp; omega) hleR (B32_sizes _ _))
      · cases ho
    · intro L wz hL hK
      rw [hL 6 (by decide)] at hK
      simp only [putAll, valInv, Act.put, List.setIfInBounds_toArray, List.set_cons_succ, List.set_cons_zero]
      go_wp2_with fail
      exact bodyPost_ret (results_own Tryz.results73 _ _ bR (B32 (bdig (tmul (tsq o 5) e % pp))) _ (by rfl) hK.h1 Tryz.underlying22 rfl (B32_info _)) rfl ⟨by rw [Hfin.out, Hx.out], hK.2⟩
end Go.Proofs.YtfkcphbbabaefaaGreatDoor
