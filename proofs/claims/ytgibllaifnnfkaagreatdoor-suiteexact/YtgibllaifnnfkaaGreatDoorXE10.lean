/- Of the texts F12: what the card of this claim reaches. -/
import Derived.Test.YtgibllaifnnfkaaGreatDoorXE7
import Derived.Test.YtgibllaifnnfkaaGreatDoorXE9
import Derived.Laws.StructEq
import Derived.Test.YtgibllaifnnfkaaGreatDoorXE4
namespace Go.Proofs.YtgibllaifnnfkaaGreatDoor
open Go.RowKit
theorem digs_eq (x y : Nat) (hx : x < R256) (hy : y < R256) : ((dig x 0 : Int) = (dig y 0 : Int) ∧ (dig x 1 : Int) = (dig y 1 : Int) ∧ (dig x 2 : Int) = (dig y 2 : Int) ∧ (dig x 3 : Int) = (dig y 3 : Int)) ↔ x = y := by
  constructor
  · rintro ⟨h0, h1, h2, h3⟩
    rw [← vl_num x hx, ← vl_num y hy]
    refine vl_congr 4 fun i hi => ?_
    rcases i with _ | _ | _ | _ | i
    · exact Int.ofNat.inj h0
    · exact Int.ofNat.inj h1
    · exact Int.ofNat.inj h2
    · exact Int.ofNat.inj h3
    · omega
  · rintro rfl
    exact ⟨rfl, rfl, rfl, rfl⟩
theorem fn_eq (x y : Nat) (hx : x < R256) (hy : y < R256) (w : World) : (Op.equalIn 10000 131 (.agg (numA x)) (.agg (numA y))).run Tryz.prog w = .ok (decide (x = y)) w := by
  have e := digs_eq x y hx hy
  have hst : Tryz.prog.stoodInHeld 131 = false := by kernel_rfl
  rw [run_equalIn_struct w 9999 131 (numA x) (numA y) (by rw [Program.fieldsOf, Tryz.underlying131]) hst]
  unfold Program.fieldsOf
  rw [Tryz.underlying131]
  unfold numA A4
  generalize (dig x 0 : Int) = x0 at *
  generalize (dig x 1 : Int) = x1 at *
  generalize (dig x 2 : Int) = x2 at *
  generalize (dig x 3 : Int) = x3 at *
  generalize (dig y 0 : Int) = y0 at *
  generalize (dig y 1 : Int) = y1 at *
  generalize (dig y 2 : Int) = y2 at *
  generalize (dig y 3 : Int) = y3 at *
  by_cases hxy : x = y
  · obtain ⟨h0, h1, h2, h3⟩ := e.2 hxy
    rw [decide_eq_true hxy]
    subst h0 h1 h2 h3
    clear e hxy
    go_simp
  · rw [decide_eq_false hxy]
    have hn := fun h => hxy (e.1 h)
    clear e hxy
    go_simp
    exact fun h0 h1 h2 h3 => hn ⟨h0, h1, h2, h3⟩
set_option maxRecDepth 100000 in
set_option maxHeartbeats 4000000 in
theorem same_any (x y : Nat) (hx : x < R256) (hy : y < R256) (w : World) (hT : TP w) : Calls Tryz.prog 128 #[.agg (numA x), .agg (numA y)] w fun r w' => r = .returned (.bool (decide (x % pp = y % pp))) ∧ Below w.heap.size w w' := by
  go_enter Tryz.func128, Tryz.ntmps128
  go_upto_region 1 with fail
  have hK := ((Kp.nil w).alloc (numA x) 131).alloc (numA y) 131
  rw [World.size_alloc] at hK
  generalize (w.alloc (.cells (numA x) 131)).alloc (.cells (numA y) 131) = W at *
  obtain ⟨bX, H1⟩ : ∃ bX, Hid (w.heap.size = bX) := ⟨_, rfl⟩
  obtain ⟨bY, H2⟩ : ∃ bY, Hid (bX + 1 = bY) := ⟨_, rfl⟩
  rw [H1.out, H2.out] at hK ⊢
  refine wp_region_lv 10 (fun _ => [(bY, numA y, 131), (bX, numA x, 131)]) [.v (.agg (numA (x))), .v (.agg (numA (x % pp))), .v (.agg (numA (y))), .v (.agg (numA (y % pp))), .v (.bool (decide (x % pp = y % pp))), .v (.bool (decide (x % pp = y % pp)))] hK (by kernel_rfl) (by kernel_rfl) (by kernel_rfl) (by rfl) ?_ ?_
  · exact .c (.ld bX (fun _ => .tail _ (.head _)) Tryz.underlying131 rfl infoFN) <| .c (.ca fun _ _ hkx => least_any x hx _ (hT.kp hkx)) <| .c (.ld bY (fun _ => .head _) Tryz.underlying131 rfl infoFN) <| .c (.ca fun _ _ hkx => least_any y hy _ (hT.kp hkx)) <| .c (.p2 6 (.agg (numA (x % pp))) 8 (.agg (numA (y % pp))) (h := by intro ac wc f6 f8; have q0 := getq f6; have q1 := getq f8; have he := fn_eq (x % pp) (y % pp) lt_of_mod lt_of_mod; go_simp)) <| .c (.p1 9 (.bool (decide (x % pp = y % pp)))) .nil
  · intro _ wq hJ _
    have hKq := hJ.1
    simp only [putL, Lv.val, Act.put, List.setIfInBounds_toArray, List.set_cons_succ, List.set_cons_zero]
    go_wp2_with fail
    go_ret
    exact ⟨rfl, hKq.2⟩
def TT (w : World) : Prop := 8 < w.heap.size ∧ w.cell? ⟨8, 0, none⟩ = some (.int .u64 14190309331451158704) ∧ w.cell? ⟨8, 1, none⟩ = some (.int .u64 3405592160176694392) ∧ w.cell? ⟨8, 2, none⟩ = some (.int .u64 3120150775007532967) ∧ w.cell? ⟨8, 3, none⟩ = some (.int .u64 3135389899092516619)
theorem TT.keep {w w' : World} (h : TT w) (hB : Below w.heap.size w w') : TT w' := by
  obtain ⟨h0, h1, h2, h3, h4⟩ := h
  have hc := (bcell hB).1
  exact ⟨Nat.lt_of_lt_of_le h0 hB.size, by rw [hc _ _ h0]; exact h1, by rw [hc _ _ h0]; exact h2, by rw [hc _ _ h0]; exact h3, by rw [hc _ _ h0]; exact h4⟩
theorem turn_num : (#[.int .u64 14190309331451158704, .int .u64 3405592160176694392, .int .u64 3120150775007532967, .int .u64 3135389899092516619] : Array Value) = numA fi := by rfl
theorem ptimes_turn {A : Array Value} {x y : Nat} (h : A = numA y) (hx : x < R256) (hy : y < R256) (w : World) : Calls Tryz.prog 110 #[.agg (numA x), .agg A] w fun r w' => r = .returned (.agg (numA (tmul x y))) ∧ Below w.heap.size w w' := by
  rw [h]; exact ptimes_any x y hx hy w
def rootBo : Option Nat → Value
  | some z => .tuple #[.agg (B32 (bdig z)), .bool true]
  | none => .tuple #[.agg (B32 (bdig 0)), .bool false]
theorem rootB_first {a r : Nat} (h1 : a ^ ((pp + 3) / 8) % pp = r) (h : r * r % pp = a % pp) : rootBo (froot a) = .tuple #[.agg (B32 (bdig (evenOf r))), .bool true] := by
  have : froot a = some (evenOf r) := by
    rw [froot_of, h1]
    unfold rootOf
    rw [if_pos h]
  rw [this, rootBo]
theorem rootB_second {a r x : Nat} (h1 : a ^ ((pp + 3) / 8) % pp = r) (hn : ¬ r * r % pp = a % pp) (hx : r * fi % pp = x) (h : x * x % pp = a % pp) : rootBo (froot a) = .tuple #[.agg (B32 (bdig (evenOf x))), .bool true] := by
  have : froot a = some (evenOf x) := by
    rw [froot_of, h1]
    unfold rootOf
    rw [if_neg hn, if_pos (by rw [hx]; exact h), hx]
  rw [this, rootBo]
theorem rootB_none {a r x : Nat} (h1 : a ^ ((pp + 3) / 8) % pp = r) (hn : ¬ r * r % pp = a % pp) (hx : r * fi % pp = x) (h : ¬ x * x % pp = a % pp) : rootBo (froot a) = .tuple #[.agg (B32 (bdig 0)), .bool false] := by
  have : froot a = none := by
    rw [froot_of, h1]
    unfold rootOf
    rw [if_neg hn, if_neg (by rw [hx]; exact h)]
  rw [this, rootBo]
theorem root_exp : (2 ^ 250 - 1) * 2 ^ 2 + 1 * 2 ^ 1 = (pp + 3) / 8 := by decide
theorem root_power {a o s : Nat} (ho : tones a 250 = o) (hs : tsq a 1 = s) : tmul (tsq o 2) s % pp = a ^ ((pp + 3) / 8) % pp := by
  have h1 : PM a (2 ^ 250 - 1) o := by rw [← ho]; exact tones_pow a 250 (by decide)
  have h2 : PM a (1 * 2 ^ 1) s := by rw [← hs]; exact PM.sq (PM.one a) 1
  have h4 := PM.mul (PM.sq h1 2) h2
  rw [root_exp] at h4
  exact h4
theorem sq_mod {q x y : Nat} (hx : q % pp = x) (hy : tsq q 1 = y) : x * x % pp = y % pp := by
  rw [← hx, ← hy, ← Nat.mul_mod]
  exact (tmul_mod q q).symm
theorem turn_mod {q x z : Nat} (hx : q % pp = x) (hz : tmul q fi = z) : x * fi % pp = z % pp := by
  rw [← hz, tmul_mod, ← hx, Nat.mod_mul_mod]
theorem zero_bytes : B32 (fun _ => 0) = B32 (bdig 0) := B32_ext fun i _ => by unfold bdig; rw [Nat.zero_div]
set_option maxRecDepth 100000 in
set_option maxHeartbeats 16000000 in
theorem proot_any (a : Nat) (ha : a < R256) (w : World) (hT : TP w) (hTT : TT w) : Calls Tryz.prog 118 #[.agg (B32 (bdig a))] w fun r w' => r = .returned (rootBo (froot a)) ∧ Below w.heap.size w w' := by
  have hz := (zero_of_info zeroB32).1
  have hz2 := (zero_of_info zeroFN).1
  have hs := tsq_lt ha 1
  obtain ⟨s, Hs⟩ : ∃ s, Hid (tsq a 1 = s) := ⟨_, rfl⟩
  rw [Hs.out] at hs
  have ho5 := tones_lt ha 250
  obtain ⟨o, Ho⟩ : ∃ o, Hid (tones a 250 = o) := ⟨_, rfl⟩
  rw [Ho.out] at ho5
  have hq := tmul_lt (tsq_lt ho5 2) hs
  obtain ⟨q, Hq⟩ : ∃ q, Hid (tmul (tsq o 2) s = q) := ⟨_, rfl⟩
  rw [Hq.out] at hq
  have Hpow : Hid (a ^ ((pp + 3) / 8) % pp = q % pp) := by show _ = _; rw [← Hq.out]; exact (root_power Ho.out Hs.out).symm
  have hy := tsq_lt hq 1
  obtain ⟨y, Hy⟩ : ∃ y, Hid (tsq q 1 = y) := ⟨_, rfl⟩
  rw [Hy.out] at hy
  obtain ⟨d, Hd⟩ : ∃ d, Hid (decide (y % pp = a % pp) = d) := ⟨_, rfl⟩
  obtain ⟨V, HV⟩ : ∃ V, Hid (rootBo (froot a) = V) := ⟨_, rfl⟩
  rw [HV.out]
  go_enter Tryz.func118, Tryz.ntmps118
  go_upto_region 1 with fail
  have hK := ((Kp.nil w).alloc (B32 (bdig a)) 22).alloc (B32 fun _ => 0) 22
  rw [World.size_alloc] at hK
  generalize (w.alloc (.cells (B32 (bdig a)) 22)).alloc (.cells (B32 fun _ => 0) 22) = W at *
  obtain ⟨bA, H1⟩ : ∃ bA, Hid (w.heap.size = bA) := ⟨_, rfl⟩
  obtain ⟨bR, H2⟩ : ∃ bR, Hid (bA + 1 = bR) := ⟨_, rfl⟩
  have hleR : w.heap.size ≤ bR := by have := H1.out; have := H2.out; omega
  rw [H1.out, H2.out] at hK ⊢
  go_wp2_with (refine wpList_load_own (by rfl) 22 (.tmp 1) (by rfl) bA (by rfl) (B32 (bdig a)) _ hK.h2 Tryz.underlying22 (by rfl) (B32_info _) ?_)
  refine (read_any a W).mono ?_
  rintro r W1 ⟨rfl, bw⟩
  have hK := hK.below bw
  go_upto_region 2 with (refine wpList_store_new (by rfl) 131 (.tmp 4) (.tmp 7) (by rfl) _ (numA a) (by rfl) (by rfl) infoFN rfl (numA_one _) (by rfl) ?_)
  have hK := hK.alloc (numA a) 131
  generalize W1.alloc (.cells (numA a) 131) = W2 at *
  obtain ⟨bN, H3⟩ : ∃ bN, Hid (W1.heap.size = bN) := ⟨_, rfl⟩
  rw [H3.out] at hK ⊢
  have hK : Kp [(bN, numA a, 131), (bR, B32 fun _ => 0, 22)] w W2 := hK.sub (by simp)
  refine wp_region_lv 38 (fun _ => [(bN, numA a, 131), (bR, B32 fun _ => 0, 22)]) [.v (.agg (numA (a))), .v (.agg (numA (o))), .v (.agg (numA (tsq o 2))), .v (.agg (numA (a))), .v (.agg (numA (s))), .v (.agg (numA (tmul (tsq o 2) s))), .mk (Q4 0 0 0 0) (numA (tmul (tsq o 2) s)) 131 7, .o] hK (by kernel_rfl) (by kernel_rfl) (by kernel_rfl) (by rfl) ?_ ?_
  · exact .c (.ld bN (fun _ => .head _) Tryz.underlying131 rfl infoFN) <| .c (.ca fun _ wc hkx => by have h := ones_any a ha 250 (by decide) (by decide) wc; rw [Ho.out] at h; exact h) <| .c (.ca fun _ _ _ => squared_any o 2 ho5 (by decide) _) <| .c (.ld bN (fun _ => .head _) Tryz.underlying131 rfl infoFN) <| .c (.ca fun _ wc hkx => by have h := squared_any a 1 ha (by decide) wc; rw [Hs.out] at h; exact h) <| .c (.ca fun _ _ _ => ptimes_any _ _ (tsq_lt ho5 2) hs _) <| .c (.al hz2) <| .c (.st 6 infoFN (numA_one _)) .nil
  · intro vs wq hJ hf
    obtain ⟨g, hg⟩ := hf 6 _ _ rfl rfl
    obtain ⟨hgl, hgn, hog⟩ := hJ.got 6 hg
    have hK := hJ.1.cons hog
    simp only [putL, Lv.val, Nat.zero_add, Nat.reduceAdd, hg, Act.put, List.setIfInBounds_toArray, List.set_cons_succ, List.set_cons_zero]
    rw [Hq.out] at hK ⊢
    have hnot : ∀ p ∈ [(bN, numA a, 131), (bR, B32 fun _ => 0, 22)], p.1 ≠ g := hgn
    clear hJ hf hgn
    go_upto_region 3 with fail
    refine wp_region_lv 38 (fun _ => [(g, numA q, 131), (bN, numA a, 131), (bR, B32 fun _ => 0, 22)]) [.v (.agg (numA q)), .v (.agg (numA y)), .v (.agg (numA a)), .v (.bool d), .v (.bool (!d))] hK (by kernel_rfl) (by kernel_rfl) (by kernel_rfl) (by rfl) ?_ ?_
    · exact .c (.ld g (fun _ => .head _) Tryz.underlying131 rfl infoFN) <| .c (.ca fun _ wc hkx => by have h := squared_any q 1 hq (by decide) wc; rw [Hy.out] at h; exact h) <| .c (.ld bN (fun _ => .tail _ (.head _)) Tryz.underlying131 rfl infoFN) <| .c (.ca fun _ wc hkx => by have h := same_any y a hy ha wc (hT.kp hkx); rw [Hd.out] at h; exact h) <| .c (.p1 17 (.bool d)) .nil
    · intro _ wy hJ _
      have hK := hJ.1
      simp only [putL, Lv.val, Act.put, List.setIfInBounds_toArray, List.set_cons_succ, List.set_cons_zero]
      cases d with
      | true =>
        have hyd := of_decide_eq_true Hd.out
        go_upto_region 5 with fail
        refine wp_region_lv 38 (fun _ => [(g, numA q, 131), (bN, numA a, 131), (bR, B32 fun _ => 0, 22)]) [.v (.agg (numA q)), .v (.agg (numA y)), .v (.agg (numA a)), .v (.bool true), .v (.bool (!true))] hK (by kernel_rfl) (by kernel_rfl) (by kernel_rfl) (by rfl) ?_ ?_
        · exact .c (.ld g (fun _ => .head _) Tryz.underlying131 rfl infoFN) <| .c (.ca fun _ wc hkx => by have h := squared_any q 1 hq (by decide) wc; rw [Hy.out] at h; exact h) <| .c (.ld bN (fun _ => .tail _ (.head _)) Tryz.underlying131 rfl infoFN) <| .c (.ca fun _ wc hkx => by have h := same_any y a hy ha wc (hT.kp hkx); rw [Hd.out] at h; exact h) <| .c (.p1 25 (.bool true)) .nil
        · intro _ wz hJ _
          have hK := hJ.1
          simp only [putL, Lv.val, Act.put, List.setIfInBounds_toArray, List.set_cons_succ, List.set_cons_zero]
          obtain ⟨x, Hx⟩ : ∃ x, Hid (q % pp = x) := ⟨_, rfl⟩
          have hxp : x < pp := by rw [← Hx.out]; exact Nat.mod_lt _ pp_pos
          have hxR : x < R256 := Nat.lt_trans hxp (by decide)
          have HE : Hid (V = .tuple #[.agg (B32 (bdig (evenOf x))), .bool true]) := by show _ = _; rw [← HV.out]; exact rootB_first (Hpow.out.trans Hx.out) ((sq_mod Hx.out Hy.out).trans hyd)
          go_upto_region 7 with fail
          go_wp2_with (refine wpList_load_own (by rfl) 131 (.tmp 5) (by rfl) g (by rfl) (numA q) _ hK.h1 Tryz.underlying131 (by rfl) infoFN ?_)
          refine (least_any q hq _ (hT.kp hK)).mono ?_
          rintro e w7 ⟨rfl, b7⟩
          rw [Hx.out]
          have hK := hK.below b7
          go_upto_region 8 with (refine wpList_store_own (by rfl) 131 (.tmp 5) (.tmp 29) (by rfl) g 0 (numA x) (by rfl) (by rfl) hK.h1 (Nat.le_refl _) infoFN (numA_one _) (by rfl) ?_)
          have hK := Kp.set (A' := numA x) hK hnot hgl rfl
          generalize w7.setCells g 0 (numA x).toList = w8 at *
          have c0 := hK.h1.cell (numA_at x 0 (by decide))
          by_cases hx2 : x % 2 = 1
          · have ho1 : bits .and .u64 (dig x 0 : Int) 1 = 1 := by rw [odd_word, hx2]; rfl
            obtain ⟨v, Hv⟩ : ∃ v, Hid (pp - x = v) := ⟨_, rfl⟩
            have hv : v < pp := by have := Hv.out; omega
            have hvR : v < R256 := Nat.lt_trans hv (by decide)
            have Hv2 : Hid (pp - x % pp = v) := by show _ = _; rw [Nat.mod_eq_of_lt hxp]; exact Hv.out
            have Hv3 : Hid (v % pp = v) := Nat.mod_eq_of_lt hv
            have Hev : Hid (evenOf x = v) := by show _ = _; unfold evenOf; rw [if_pos hx2]; exact Hv.out
            clear hx2
            go_upto_region 9 with fail
            clear c0
            go_wp2_with (refine wpList_load_own (by rfl) 131 (.tmp 5) (by rfl) g (by rfl) (numA x) _ hK.h1 Tryz.underlying131 (by rfl) infoFN ?_)
            refine (opp_any x hxR _ (hT.kp hK)).mono ?_
            rintro e w9 ⟨rfl, b9⟩
            rw [Hv2.out]
            have hK := hK.below b9
            go_upto_region 10 with (refine wpList_store_own (by rfl) 131 (.tmp 5) (.tmp 35) (by rfl) g 0 (numA v) (by rfl) (by rfl) hK.h1 (Nat.le_refl _) infoFN (numA_one _) (by rfl) ?_)
            have hK := Kp.set (A' := numA v) hK hnot hgl rfl
            generalize w9.setCells g 0 (numA v).toList = w10 at *
            go_wp2_with (refine wpList_load_own (by rfl) 131 (.tmp 5) (by rfl) g (by rfl) (numA v) _ hK.h1 Tryz.underlying131 (by rfl) infoFN ?_)
            refine (write_any v hvR _ (hT.kp hK)).mono ?_
            rintro e w11 ⟨rfl, b11⟩
            rw [Hv3.out]
            have hK := hK.below b11
            go_wp2_with (refine wpList_store_own (by rfl) 22 (.tmp 2) (.tmp 37) (by rfl) bR 0 (B32 (bdig v)) (by rfl) (by rfl) hK.h3 (B32_le _ _) (B32_info _) (B32_one _) (by rfl) ?_)
            exact bodyPost_ret (results_own_tmp Tryz.results118 _ _ bR (B32 (bdig v)) _ (by rfl) (own_setCells hK.h3 (B32_sizes _ _)) Tryz.underlying22 rfl (B32_info _)) rfl ⟨by rw [HE.out, Hev.out]; rfl, Below.setCells _ _ _ _ hleR hK.2⟩
          · have ho1 : bits .and .u64 (dig x 0 : Int) 1 = 0 := by rw [odd_word, show x % 2 = 0 by omega]; rfl
            have Hx3 : Hid (x % pp = x) := Nat.mod_eq_of_lt hxp
            have Hev : Hid (evenOf x = x) := by show _ = _; unfold evenOf; rw [if_neg hx2]
            clear hx2
            go_upto_region 10 with fail
            clear c0
            go_wp2_with (refine wpList_load_own (by rfl) 131 (.tmp 5) (by rfl) g (by rfl) (numA x) _ hK.h1 Tryz.underlying131 (by rfl) infoFN ?_)
            refine (write_any x hxR _ (hT.kp hK)).mono ?_
            rintro e w11 ⟨rfl, b11⟩
            rw [Hx3.out]
            have hK := hK.below b11
            go_wp2_with (refine wpList_store_own (by rfl) 22 (.tmp 2) (.tmp 37) (by rfl) bR 0 (B32 (bdig x)) (by rfl) (by rfl) hK.h3 (B32_le _ _) (B32_info _) (B32_one _) (by rfl) ?_)
            exact bodyPost_ret (results_own_tmp Tryz.results118 _ _ bR (B32 (bdig x)) _ (by rfl) (own_setCells hK.h3 (B32_sizes _ _)) Tryz.underlying22 rfl (B32_info _)) rfl ⟨by rw [HE.out, Hev.out]; rfl, Below.setCells _ _ _ _ hleR hK.2⟩
      | false =>
        have hyd := of_decide_eq_false Hd.out
        have hz1 := tmul_lt hq (Nat.lt_trans fi_lt (by decide))
        obtain ⟨z, Hz⟩ : ∃ z, Hid (tmul q fi = z) := ⟨_, rfl⟩
        rw [Hz.out] at hz1
        have hu := tsq_lt hz1 1
        obtain ⟨u, Hu⟩ : ∃ u, Hid (tsq z 1 = u) := ⟨_, rfl⟩
        rw [Hu.out] at hu
        obtain ⟨d1, Hd1⟩ : ∃ d, Hid (decide (u % pp = a % pp) = d) := ⟨_, rfl⟩
        obtain ⟨x0, Hx0⟩ : ∃ x, Hid (q % pp = x) := ⟨_, rfl⟩
        obtain ⟨tl, t0, t1, t2, t3⟩ := hTT.keep hK.2
        go_upto_region 4 with fail
        go_wp2_with (refine wpList_load_own (by rfl) 131 (.tmp 5) (by rfl) g (by rfl) (numA q) _ hK.h1 Tryz.underlying131 (by rfl) infoFN ?_)
        refine (ptimes_turn turn_num hq (Nat.lt_trans fi_lt (by decide)) _).mono ?_
        rintro e w4 ⟨rfl, b4⟩
        rw [Hz.out]
        clear tl t0 t1 t2 t3
        have hK := hK.below b4
        go_upto_region 5 with (refine wpList_store_own (by rfl) 131 (.tmp 5) (.tmp 21) (by rfl) g 0 (numA z) (by rfl) (by rfl) hK.h1 (Nat.le_refl _) infoFN (numA_one _) (by rfl) ?_)
        have hK := Kp.set (A' := numA z) hK hnot hgl rfl
        generalize w4.setCells g 0 (numA z).toList = w5 at *
        go_upto_region 5 with fail
        refine wp_region_lv 38 (fun _ => [(g, numA z, 131), (bN, numA a, 131), (bR, B32 fun _ => 0, 22)]) [.v (.agg (numA z)), .v (.agg (numA u)), .v (.agg (numA a)), .v (.bool d1), .v (.bool (!d1))] hK (by kernel_rfl) (by kernel_rfl) (by kernel_rfl) (by rfl) ?_ ?_
        · exact .c (.ld g (fun _ => .head _) Tryz.underlying131 rfl infoFN) <| .c (.ca fun _ wc hkx => by have h := squared_any z 1 hz1 (by decide) wc; rw [Hu.out] at h; exact h) <| .c (.ld bN (fun _ => .tail _ (.head _)) Tryz.underlying131 rfl infoFN) <| .c (.ca fun _ wc hkx => by have h := same_any u a hu ha wc (hT.kp hkx); rw [Hd1.out] at h; exact h) <| .c (.p1 25 (.bool d1)) .nil
        · intro _ wz hJ _
          have hK := hJ.1
          simp only [putL, Lv.val, Act.put, List.setIfInBounds_toArray, List.set_cons_succ, List.set_cons_zero]
          cases d1 with
          | true =>
            have hud := of_decide_eq_true Hd1.out
            obtain ⟨x, Hx⟩ : ∃ x, Hid (z % pp = x) := ⟨_, rfl⟩
            have hxp : x < pp := by rw [← Hx.out]; exact Nat.mod_lt _ pp_pos
            have hxR : x < R256 := Nat.lt_trans hxp (by decide)
            have HE : Hid (V = .tuple #[.agg (B32 (bdig (evenOf x))), .bool true]) := by show _ = _; rw [← HV.out]; exact rootB_second (Hpow.out.trans Hx0.out) (fun h => hyd ((sq_mod Hx0.out Hy.out).symm.trans h)) ((turn_mod Hx0.out Hz.out).trans Hx.out) ((sq_mod Hx.out Hu.out).trans hud)
            go_upto_region 7 with fail
            go_wp2_with (refine wpList_load_own (by rfl) 131 (.tmp 5) (by rfl) g (by rfl) (numA z) _ hK.h1 Tryz.underlying131 (by rfl) infoFN ?_)
            refine (least_any z hz1 _ (hT.kp hK)).mono ?_
            rintro e w7 ⟨rfl, b7⟩
            rw [Hx.out]
            have hK := hK.below b7
            go_upto_region 8 with (refine wpList_store_own (by rfl) 131 (.tmp 5) (.tmp 29) (by rfl) g 0 (numA x) (by rfl) (by rfl) hK.h1 (Nat.le_refl _) infoFN (numA_one _) (by rfl) ?_)
            have hK := Kp.set (A' := numA x) hK hnot hgl rfl
            generalize w7.setCells g 0 (numA x).toList = w8 at *
            have c0 := hK.h1.cell (numA_at x 0 (by decide))
            by_cases hx2 : x % 2 = 1
            · have ho1 : bits .and .u64 (dig x 0 : Int) 1 = 1 := by rw [odd_word, hx2]; rfl
              obtain ⟨v, Hv⟩ : ∃ v, Hid (pp - x = v) := ⟨_, rfl⟩
              have hv : v < pp := by have := Hv.out; omega
              have hvR : v < R256 := Nat.lt_trans hv (by decide)
              have Hv2 : Hid (pp - x % pp = v) := by show _ = _; rw [Nat.mod_eq_of_lt hxp]; exact Hv.out
              have Hv3 : Hid (v % pp = v) := Nat.mod_eq_of_lt hv
              have Hev : Hid (evenOf x = v) := by show _ = _; unfold evenOf; rw [if_pos hx2]; exact Hv.out
              clear hx2
              go_upto_region 9 with fail
              clear c0
              go_wp2_with (refine wpList_load_own (by rfl) 131 (.tmp 5) (by rfl) g (by rfl) (numA x) _ hK.h1 Tryz.underlying131 (by rfl) infoFN ?_)
              refine (opp_any x hxR _ (hT.kp hK)).mono ?_
              rintro e w9 ⟨rfl, b9⟩
              rw [Hv2.out]
              have hK := hK.below b9
              go_upto_region 10 with (refine wpList_store_own (by rfl) 131 (.tmp 5) (.tmp 35) (by rfl) g 0 (numA v) (by rfl) (by rfl) hK.h1 (Nat.le_refl _) infoFN (numA_one _) (by rfl) ?_)
              have hK := Kp.set (A' := numA v) hK hnot hgl rfl
              generalize w9.setCells g 0 (numA v).toList = w10 at *
              go_wp2_with (refine wpList_load_own (by rfl) 131 (.tmp 5) (by rfl) g (by rfl) (numA v) _ hK.h1 Tryz.underlying131 (by rfl) infoFN ?_)
              refine (write_any v hvR _ (hT.kp hK)).mono ?_
              rintro e w11 ⟨rfl, b11⟩
              rw [Hv3.out]
              have hK := hK.below b11
              go_wp2_with (refine wpList_store_own (by rfl) 22 (.tmp 2) (.tmp 37) (by rfl) bR 0 (B32 (bdig v)) (by rfl) (by rfl) hK.h3 (B32_le _ _) (B32_info _) (B32_one _) (by rfl) ?_)
              exact bodyPost_ret (results_own_tmp Tryz.results118 _ _ bR (B32 (bdig v)) _ (by rfl) (own_setCells hK.h3 (B32_sizes _ _)) Tryz.underlying22 rfl (B32_info _)) rfl ⟨by rw [HE.out, Hev.out]; rfl, Below.setCells _ _ _ _ hleR hK.2⟩
            · have ho1 : bits .and .u64 (dig x 0 : Int) 1 = 0 := by rw [odd_word, show x % 2 = 0 by omega]; rfl
              have Hx3 : Hid (x % pp = x) := Nat.mod_eq_of_lt hxp
              have Hev : Hid (evenOf x = x) := by show _ = _; unfold evenOf; rw [if_neg hx2]
              clear hx2
              go_upto_region 10 with fail
              clear c0
              go_wp2_with (refine wpList_load_own (by rfl) 131 (.tmp 5) (by rfl) g (by rfl) (numA x) _ hK.h1 Tryz.underlying131 (by rfl) infoFN ?_)
              refine (write_any x hxR _ (hT.kp hK)).mono ?_
              rintro e w11 ⟨rfl, b11⟩
              rw [Hx3.out]
              have hK := hK.below b11
              go_wp2_with (refine wpList_store_own (by rfl) 22 (.tmp 2) (.tmp 37) (by rfl) bR 0 (B32 (bdig x)) (by rfl) (by rfl) hK.h3 (B32_le _ _) (B32_info _) (B32_one _) (by rfl) ?_)
              exact bodyPost_ret (results_own_tmp Tryz.results118 _ _ bR (B32 (bdig x)) _ (by rfl) (own_setCells hK.h3 (B32_sizes _ _)) Tryz.underlying22 rfl (B32_info _)) rfl ⟨by rw [HE.out, Hev.out]; rfl, Below.setCells _ _ _ _ hleR hK.2⟩
          | false =>
            have hud := of_decide_eq_false Hd1.out
            have HE : Hid (V = .tuple #[.agg (B32 (bdig 0)), .bool false]) := by
              show _ = _
              rw [← HV.out]
              exact rootB_none (Hpow.out.trans Hx0.out) (fun h => hyd ((sq_mod Hx0.out Hy.out).symm.trans h)) (turn_mod Hx0.out Hz.out) (fun h => hud ((sq_mod rfl Hu.out).symm.trans h))
            go_upto_region 6 with fail
            go_wp2_with (refine wpList_store_own (by rfl) 22 (.tmp 2) (.tmp 27) (by rfl) bR 0 (B32 fun _ => 0) (by rfl) (by rfl) hK.h3 (B32_le _ _) (B32_info _) (B32_one _) (by rfl) ?_)
            exact bodyPost_ret (results_own_tmp Tryz.results118 _ _ bR (B32 fun _ => 0) _ (by rfl) (own_setCells hK.h3 (B32_sizes _ _)) Tryz.underlying22 rfl (B32_info _)) rfl ⟨by rw [HE.out, ← zero_bytes]; rfl, Below.setCells _ _ _ _ hleR hK.2⟩
end Go.Proofs.YtgibllaifnnfkaaGreatDoor
