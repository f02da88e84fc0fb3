/- Of the texts SD1, VA: what the card of this claim reaches. -/
import Derived.Test.YtgibllaifnnfkaaGreatDoorXE30
import Derived.Test.YtgibllaifnnfkaaGreatDoorXE31
import Derived.Test.YtgibllaifnnfkaaGreatDoorXE3
import Derived.Test.YtgibllaifnnfkaaGreatDoorXE4
import Derived.Test.YtgibllaifnnfkaaGreatDoorXE11
import Derived.Test.YtgibllaifnnfkaaGreatDoorXE9
namespace Go.Proofs.YtgibllaifnnfkaaGreatDoor
open Go Go.RowKit
theorem psum32 {b n z : Nat} {t : TypeId} {w : World} (ho : Own w b (B32 (bdig n)) t) (hz : dn (by32 n) = z) : Calls Tryz.prog 45 #[.slice (some ⟨b, 0, none⟩) 32 32] w fun e w' => e = .returned (.agg (B64 (bdig z))) ∧ Below w.heap.size w w' := by
  have h := psum512 (a := some ⟨b, 0, none⟩) (cap := 32) (l := by32 n) hz (by rw [by32_length]; decide) w ⟨by have := bytes_own ho; rw [← by32_length n] at this; exact this, fun h => by cases h⟩
  rw [by32_length] at h
  exact h
theorem pjoin32 {a : Option Addr} {hi : Nat} (w : World) (hR : H.RowsV w a 1 1 [by32 hi]) :
    Calls Tryz.prog 23 #[.slice a 1 1] w fun e w' => ∃ aq cq g X, e = .returned (.slice aq 32 cq) ∧ w.heap.size ≤ g ∧ Own w' g X 5 ∧ (∀ W, Own W g X 5 → H.BytesV W aq 32 cq (by32 hi) ∧ (aq = none → cq = 0)) ∧ Below w.heap.size w w' := by
  have hf : [by32 hi].flatten = by32 hi := by simp
  have h := H.join_own a 1 1 [by32 hi] w hR (by rw [hf, by32_length]; decide)
  rw [hf, by32_length] at h
  refine h.mono fun e w' ⟨a', cap', h1, hO, _, hn, hB⟩ => ?_
  have hO' := hO
  obtain ⟨k1, ⟨k2, k3⟩ | ⟨g, cap, cur, k2, k3, k4, k5⟩⟩ := hO'
  · rw [by32_length] at k3; cases k3
  · refine ⟨a', cap', g, cur, h1, k3, k4, fun W hW => ⟨?_, hn⟩, hB⟩
    have hO2 : H.OwnBytes W w.heap.size (.slice a' 32 cap') (by32 hi) := ⟨k1, .inr ⟨g, cap, cur, k2, k3, hW, k5⟩⟩
    obtain ⟨a2, c2, e2, hv⟩ := hO2.form (by32_bys hi)
    rw [by32_length] at e2 hv
    simp only [Value.slice.injEq, true_and] at e2
    obtain ⟨rfl, rfl⟩ := e2
    exact hv
def SeedR (c hi : Nat) (w : World) (x : Ending) (w' : World) : Prop := ∃ ja jc bX X, x = .returned (.tuple #[.agg (B32 (bdig c)), .slice ja 32 jc]) ∧ (∀ W, Own W bX X 5 → H.BytesV W ja 32 jc (by32 hi) ∧ (ja = none → jc = 0)) ∧ Own w' bX X 5 ∧ w.heap.size ≤ bX ∧ Below w.heap.size w w'
theorem seedR_mk {c hi : Nat} {w w' : World} {x : Ending} {ja : Option Addr} {jc bX : Nat} {X : Array Value} (h1 : x = .returned (.tuple #[.agg (B32 (bdig c)), .slice ja 32 jc])) (h2 : ∀ W, Own W bX X 5 → H.BytesV W ja 32 jc (by32 hi) ∧ (ja = none → jc = 0)) (h3 : Own w' bX X 5) (h4 : w.heap.size ≤ bX) (h5 : Below w.heap.size w w') : SeedR c hi w x w' := ⟨ja, jc, bX, X, h1, h2, h3, h4, h5⟩
def factSeed4 (lo c b2 : Nat) : Nat → Value → Prop
  | 0, vq => vq = .agg (B32 (bdig lo))
  | 1, vq => vq = .agg (numA c)
  | 2, vq => vq = .agg (B32 (bdig c))
  | 3, vq => vq = .slice (some ⟨b2, 32, none⟩) 32 32
  | 4, vq => ∃ aq, vq = .slice aq 1 1
  | _, _ => True
theorem xo_bel {w0 w w' : World} {v : Value} {b : Nat} {l : List Int} (h : ∃ aq cq gq X, v = .slice aq 32 cq ∧ w0.heap.size ≤ gq ∧ b ≠ gq ∧ Own w gq X 5 ∧ ∀ W, Own W gq X 5 → H.BytesV W aq 32 cq l ∧ (aq = none → cq = 0)) (hB : Below w.heap.size w w') : ∃ aq cq gq X, v = .slice aq 32 cq ∧ w0.heap.size ≤ gq ∧ b ≠ gq ∧ Own w' gq X 5 ∧ ∀ W, Own W gq X 5 → H.BytesV W aq 32 cq l ∧ (aq = none → cq = 0) := by
  obtain ⟨aq, cq, gq, X, h1, h2, h3, h4, h5⟩ := h
  exact ⟨aq, cq, gq, X, h1, h2, h3, h4.below hB h4.lt, h5⟩
theorem ro_bel {w w' : World} {v : Value} {b : Nat} {A : Array Value} (h : ∃ gr, v = .slice (some ⟨gr, 0, none⟩) 1 1 ∧ b ≠ gr ∧ Own w gr A 23) (hB : Below w.heap.size w w') : ∃ gr, v = .slice (some ⟨gr, 0, none⟩) 1 1 ∧ b ≠ gr ∧ Own w' gr A 23 := by
  obtain ⟨gr, h1, h2, h3⟩ := h
  exact ⟨gr, h1, h2, h3.below hB h3.lt⟩
theorem ro_set {w : World} {v : Value} {b : Nat} {A D : Array Value} (h : ∃ gr, v = .slice (some ⟨gr, 0, none⟩) 1 1 ∧ b ≠ gr ∧ Own w gr A 23) : ∃ gr, v = .slice (some ⟨gr, 0, none⟩) 1 1 ∧ b ≠ gr ∧ Own (w.setCells b 0 D.toList) gr A 23 := by
  obtain ⟨gr, h1, h2, h3⟩ := h
  exact ⟨gr, h1, h2, Own.setCells_other (Ne.symm h2) _ _ _ h3⟩
theorem rows_own1 {w : World} {g n c : Nat} {a : Option Addr} {m : List Int} (h : Own w g #[.slice a n c] 23) (hv : H.BytesV w a n c m) (hn : a = none → c = 0) : H.RowsV w (some ⟨g, 0, none⟩) 1 1 [m] := by
  have e := hv.1
  subst e
  refine ⟨rfl, Nat.le_refl _, by decide, fun _ => ⟨g, 0, rfl, fun i m' hm' => ?_⟩⟩
  rcases i with _ | i
  · obtain rfl : m = m' := by simpa using hm'
    exact ⟨a, c, h.cell rfl, hv, hn⟩
  · simp at hm'
theorem xo_set {w0 w : World} {v : Value} {b : Nat} {l : List Int} {A : Array Value} (h : ∃ aq cq gq X, v = .slice aq 32 cq ∧ w0.heap.size ≤ gq ∧ b ≠ gq ∧ Own w gq X 5 ∧ ∀ W, Own W gq X 5 → H.BytesV W aq 32 cq l ∧ (aq = none → cq = 0)) : ∃ aq cq gq X, v = .slice aq 32 cq ∧ w0.heap.size ≤ gq ∧ b ≠ gq ∧ Own (w.setCells b 0 A.toList) gq X 5 ∧ ∀ W, Own W gq X 5 → H.BytesV W aq 32 cq l ∧ (aq = none → cq = 0) := by
  obtain ⟨aq, cq, gq, X, h1, h2, h3, h4, h5⟩ := h
  exact ⟨aq, cq, gq, X, h1, h2, h3, Own.setCells_other (Ne.symm h3) _ _ _ h4, h5⟩
set_option maxRecDepth 100000 in
set_option maxHeartbeats 1000000 in
theorem seeded_at {n lo hi c : Nat} (Hd : Hid (dn (by32 n) = two lo hi)) (llo : Hid (lo < R256)) (Hc : Hid (clamp lo = c)) (w : World) : Calls Tryz.prog 41 #[.agg (B32 (bdig n))] w fun x w' => SeedR c hi w x w' := by
  have hz := (zero_of_info zeroB32).1
  have hz64 := (zero_of_info zeroB64).1
  go_enter Tryz.func41, Tryz.ntmps41
  go_upto_region 1 with fail
  have hK := ((Kp.nil w).alloc (B32 (bdig n)) 22).alloc (B32 fun _ => 0) 22
  rw [World.size_alloc] at hK
  generalize (w.alloc (.cells (B32 (bdig n)) 22)).alloc (.cells (B32 fun _ => 0) 22) = W at *
  obtain ⟨bA, HbA⟩ : ∃ b, Hid (w.heap.size = b) := ⟨_, rfl⟩
  obtain ⟨bR, HbR⟩ : ∃ b, Hid (bA + 1 = b) := ⟨_, rfl⟩
  have le_bA : Hid (w.heap.size ≤ bA) := by show _ ≤ _; have := HbA.out; omega
  have le_bR : Hid (w.heap.size ≤ bR) := by show _ ≤ _; have := HbA.out; have := HbR.out; omega
  have ne_bA_bR : Hid (bA ≠ bR) := by show _ ≠ _; have := HbR.out; omega
  rw [HbA.out, HbR.out] at hK ⊢
  go_wp2_with fail
  refine (psum32 (hK.at bA (B32 (bdig n)) 22 (.tail _ (.head _))) Hd.out).mono ?_
  rintro e V1 ⟨rfl, bw⟩
  have hK := hK.below bw
  clear bw
  go_upto_region 2 with (refine wpList_store_new (by rfl) 24 (.tmp 4) (.tmp 7) (by rfl) _ (B64 (bdig (two lo hi))) (by rfl) (by rfl) (B64_info _) (B64_sizes _ _) (B64_one _) (by rfl) ?_)
  have lt_bR := (hK.at bR (B32 fun _ => 0) 22 (.head _)).lt
  have lt_bA := (hK.at bA (B32 (bdig n)) 22 (.tail _ (.head _))).lt
  have le_b2 := show Hid _ from hK.2.size
  have hK := hK.alloc (B64 (bdig (two lo hi))) 24
  generalize V1.alloc (.cells (B64 (bdig (two lo hi))) 24) = V3 at *
  obtain ⟨b2, Hb2⟩ : ∃ b, Hid (V1.heap.size = b) := ⟨_, rfl⟩
  have ne_bR_b2 : Hid (bR ≠ b2) := by show _ ≠ _; rw [← Hb2.out]; exact Nat.ne_of_lt lt_bR
  have ne_bA_b2 : Hid (bA ≠ b2) := by show _ ≠ _; rw [← Hb2.out]; exact Nat.ne_of_lt lt_bA
  have le_b2 : Hid (w.heap.size ≤ b2) := by show _ ≤ _; rw [← Hb2.out]; exact le_b2.out
  rw [Hb2.out] at hK ⊢
  clear lt_bR lt_bA
  go_upto_region 3 with fail
  have lt_b2 := (hK.at b2 (B64 (bdig (two lo hi))) 24 (.head _)).lt
  have lt_bR := (hK.at bR (B32 fun _ => 0) 22 (.tail _ (.head _))).lt
  have lt_bA := (hK.at bA (B32 (bdig n)) 22 (.tail _ (.tail _ (.head _)))).lt
  have le_b4 := show Hid _ from hK.2.size
  have hK := hK.alloc (B32 fun _ => 0) 22
  generalize V3.alloc (.cells (B32 fun _ => 0) 22) = V5 at *
  obtain ⟨b4, Hb4⟩ : ∃ b, Hid (V3.heap.size = b) := ⟨_, rfl⟩
  have ne_b2_b4 : Hid (b2 ≠ b4) := by show _ ≠ _; rw [← Hb4.out]; exact Nat.ne_of_lt lt_b2
  have ne_bR_b4 : Hid (bR ≠ b4) := by show _ ≠ _; rw [← Hb4.out]; exact Nat.ne_of_lt lt_bR
  have ne_bA_b4 : Hid (bA ≠ b4) := by show _ ≠ _; rw [← Hb4.out]; exact Nat.ne_of_lt lt_bA
  have le_b4 : Hid (w.heap.size ≤ b4) := by show _ ≤ _; rw [← Hb4.out]; exact le_b4.out
  rw [Hb4.out] at hK ⊢
  clear lt_b2 lt_bR lt_bA
  refine wp_region_lv 17 (fun L => [(b4, if L 2 = true then B32 (bdig lo) else B32 fun _ => 0, 22), (b2, B64 (bdig (two lo hi)), 24), (bR, B32 fun _ => 0, 22), (bA, B32 (bdig n), 22)]) [.v (.slice (some ⟨b4, 0, none⟩) 32 32), .v (.slice (some ⟨b2, 0, none⟩) 32 64), .v (.int .i64 (32))] hK (by kernel_rfl) (by kernel_rfl) (by kernel_rfl) (by rfl) ?_ ?_
  · exact .c (.p1 5 (.pointer (some ⟨b4, 0, none⟩))) <| .c (.p1 4 (.pointer (some ⟨b2, 0, none⟩))) <| .c (.xr [(8, .slice (some ⟨b4, 0, none⟩) 32 32), (9, .slice (some ⟨b2, 0, none⟩) 32 64)] b4 (.hr (fun _ => rfl) (fun _ => rfl) (fun _ => fc ne_b2_b4 <| fc ne_bR_b4 <| fc ne_bA_b4 <| fn)) le_b4.out fun _ ac wc _ _ hfx _ hkx hjo hx => by have f8 := hfx _ (.head _); have f9 := hfx _ (.tail _ (.head _)); have hrg : wc.rangeAt b2 0 (B32 (bdig lo)).toList := (B64_lo2 llo.out (hkx.at b2 (B64 (bdig (two lo hi))) 24 (.tail _ (.head _)))); refine wp_copy_at (.tmp 8) (.tmp 9) 23 23 rfl 5 Tryz.underlying23 infoU8s b4 0 32 32 b2 0 32 64 f8 f9 hjo _ hrg (by rw [B32_len0]; rfl) (by rw [B32_len0, B32_size]; decide) (B32_ones _) ?_; rw [join32 lo, B32_len0]; exact hx _ rfl) .nil
  intro _ V6 hJ _
  have hK : Kp [(b4, B32 (bdig lo), 22), (b2, B64 (bdig (two lo hi)), 24), (bR, B32 fun _ => 0, 22), (bA, B32 (bdig n), 22)] w V6 := hJ.1
  clear hJ
  simp only [putL, Lv.val, Act.put, List.setIfInBounds_toArray, List.set_cons_succ, List.set_cons_zero]
  go_upto_region 4 with fail
  refine wp_region_told 17 (by kernel_rfl) (by kernel_rfl) (by rfl) (factSeed4 lo c b2) (fun L vs wq => Kp [(b4, B32 (bdig lo), 22), (b2, B64 (bdig (two lo hi)), 24), (bR, if L 6 = true then B32 (bdig c) else B32 fun _ => 0, 22), (bA, B32 (bdig n), 22)] w wq ∧ (L 4 = true → ∃ gr, vs 4 = .slice (some ⟨gr, 0, none⟩) 1 1 ∧ bR ≠ gr ∧ Own wq gr #[.slice (some ⟨b2, 32, none⟩) 32 32] 23) ∧ (L 5 = true → ∃ aq cq gq X, vs 5 = .slice aq 32 cq ∧ w.heap.size ≤ gq ∧ bR ≠ gq ∧ Own wq gq X 5 ∧ ∀ W, Own W gq X 5 → H.BytesV W aq 32 cq (by32 hi) ∧ (aq = none → cq = 0)) ∧ (L 7 = true → vs 7 = vs 5)) (fun _ => ⟨hK.drew, (fun h => by cases h), (fun h => by cases h), (fun h => by cases h)⟩) ?_ ?_
  · intro L vs ac wc i o hF hLi ho hd K hK
    rcases i with _ | _ | _ | _ | _ | _ | _ | _ | i
    · have ho' := ho
      obtain rfl := Option.some.inj ho
      have f5 : ac.tmps.getD 5 undef = .pointer (some ⟨b4, 0, none⟩) := slott hF 0 hLi 5 (by kernel_rfl)
      refine step_do ho' (wanted_free rfl) ?_
      exact wp_load_own 22 (.tmp 5) rfl b4 f5 (B32 (bdig lo)) _ 22 (hF.j.1.at b4 (B32 (bdig lo)) 22 (.head _)) Tryz.underlying22 rfl (B32_info _) (hK _ _ (.inr rfl) hF.j)
    · have ho' := ho
      obtain rfl := Option.some.inj ho
      have f11 : ac.tmps.getD 11 undef = .agg (B32 (bdig lo)) := (factt hF hd 0 rfl rfl (by kernel_rfl)).1.trans (factt hF hd 0 rfl rfl (by kernel_rfl)).2
      refine step_do ho' (wanted_free rfl) ?_
      unfold Oper.wp
      go_simp
      refine (key_at Hc _).mono ?_
      rintro e w' ⟨rfl, hB⟩
      exact hK _ _ (.inr rfl) ⟨hF.j.1.below hB, (fun h1 => ro_bel (hF.j.2.1 h1) hB), (fun h1 => xo_bel (hF.j.2.2.1 h1) hB), hF.j.2.2.2⟩
    · have ho' := ho
      obtain rfl := Option.some.inj ho
      have f12 : ac.tmps.getD 12 undef = .agg (numA c) := (factt hF hd 1 rfl rfl (by kernel_rfl)).1.trans (factt hF hd 1 rfl rfl (by kernel_rfl)).2
      refine step_do ho' (wanted_free rfl) ?_
      unfold Oper.wp
      go_simp
      refine (bytesOf_any c _).mono ?_
      rintro e w' ⟨rfl, hB⟩
      exact hK _ _ (.inr rfl) ⟨hF.j.1.below hB, (fun h1 => ro_bel (hF.j.2.1 h1) hB), (fun h1 => xo_bel (hF.j.2.2.1 h1) hB), hF.j.2.2.2⟩
    · have ho' := ho
      obtain rfl := Option.some.inj ho
      have f4 : ac.tmps.getD 4 undef = .pointer (some ⟨b2, 0, none⟩) := slott hF 3 hLi 4 (by kernel_rfl)
      refine step_do ho' (wanted_free rfl) ?_
      unfold Oper.wp
      go_simp
      exact hK _ _ (.inr rfl) hF.j
    · have ho' := ho
      obtain rfl := Option.some.inj ho
      have f14 : ac.tmps.getD 14 undef = .slice (some ⟨b2, 32, none⟩) 32 32 := (factt hF hd 3 rfl rfl (by kernel_rfl)).1.trans (factt hF hd 3 rfl rfl (by kernel_rfl)).2
      refine step_do ho' (wanted_free rfl) ?_
      have q14 := getq f14
      unfold Oper.wp
      go_simp
      exact hK _ _ (.inr ⟨_, rfl⟩) ⟨hF.j.1.below (alloc_below _ _), (fun _ => ⟨_, rfl, Nat.ne_of_lt (hF.j.1.at bR (if L 6 = true then B32 (bdig c) else B32 fun _ => 0) 22 (.tail _ (.tail _ (.head _)))).lt, own_new _ _ _⟩), (fun h1 => xo_bel (hF.j.2.2.1 h1) (alloc_below _ _)), hF.j.2.2.2⟩
    · have ho' := ho
      obtain rfl := Option.some.inj ho
      obtain ⟨gr, eq, _, hq⟩ := hF.j.2.1 (dep hd 4 (by kernel_rfl))
      have hq := rows_own1 hq (bytes_hi2 llo.out (hF.j.1.at b2 (B64 (bdig (two lo hi))) 24 (.tail _ (.head _)))) (fun h => by cases h)
      have f15 := (factt hF hd 4 rfl rfl (by kernel_rfl)).1
      rw [eq] at f15
      refine step_do ho' (wanted_free rfl) ?_
      have h7 : L 7 = false := notyett hF 5 hLi 7 rfl (by kernel_rfl)
      unfold Oper.wp
      go_simp
      refine (pjoin32 _ hq).mono ?_
      rintro e w' ⟨ax, cx, gx, X, rfl, h1, h2, h3, hB⟩
      have hbR := hF.j.1.at bR (if L 6 = true then B32 (bdig c) else B32 fun _ => 0) 22 (.tail _ (.tail _ (.head _)))
      exact hK _ _ (.inr trivial) ⟨hF.j.1.below hB, (fun h1 => ro_bel (hF.j.2.1 h1) hB), (fun _ => ⟨ax, cx, gx, X, rfl, Nat.le_trans hF.j.1.2.size h1, Nat.ne_of_lt (Nat.lt_of_lt_of_le hbR.lt h1), h2, h3⟩), (fun h => by have h : L 7 = true := h; rw [h7] at h; cases h)⟩
    · have ho' := ho
      obtain rfl := Option.some.inj ho
      have f2 : ac.tmps.getD 2 undef = .pointer (some ⟨bR, 0, none⟩) := slott hF 6 hLi 2 (by kernel_rfl)
      have f13 : ac.tmps.getD 13 undef = .agg (B32 (bdig c)) := (factt hF hd 2 rfl rfl (by kernel_rfl)).1.trans (factt hF hd 2 rfl rfl (by kernel_rfl)).2
      refine step_do ho' (wanted_free rfl) ?_
      have hj := hF.j.1
      rw [hLi] at hj
      have hj : Kp [(b4, B32 (bdig lo), 22), (b2, B64 (bdig (two lo hi)), 24), (bR, B32 fun _ => 0, 22), (bA, B32 (bdig n), 22)] w wc := hj
      refine wp_store_own 22 (.tmp 2) (.tmp 13) rfl bR (B32 (bdig c)) f2 f13 (hj.at bR (B32 fun _ => 0) 22 (.tail _ (.tail _ (.head _)))) (B32_sizes _ _) (B32_info _) (B32_one _) rfl ?_
      have hj : Kp [(bR, B32 fun _ => 0, 22), (b4, B32 (bdig lo), 22), (b2, B64 (bdig (two lo hi)), 24), (bA, B32 (bdig n), 22)] w wc := ((((hj.none.cons (hj.at bA (B32 (bdig n)) 22 (.tail _ (.tail _ (.tail _ (.head _)))))).cons (hj.at b2 (B64 (bdig (two lo hi))) 24 (.tail _ (.head _)))).cons (hj.at b4 (B32 (bdig lo)) 22 (.head _))).cons (hj.at bR (B32 fun _ => 0) 22 (.tail _ (.tail _ (.head _)))))
      have hj := Kp.set (A' := B32 (bdig c)) hj (by simp only [List.forall_mem_cons, List.not_mem_nil, false_implies, implies_true, and_true]; exact ⟨(Ne.symm ne_bR_b4.out), (Ne.symm ne_bR_b2.out), ne_bA_bR.out⟩) le_bR.out (B32_sizes _ _)
      exact hK undef _ (.inl rfl) ⟨((((hj.none.cons (hj.at bA (B32 (bdig n)) 22 (.tail _ (.tail _ (.tail _ (.head _)))))).cons (hj.at bR (B32 (bdig c)) 22 (.head _))).cons (hj.at b2 (B64 (bdig (two lo hi))) 24 (.tail _ (.tail _ (.head _))))).cons (hj.at b4 (B32 (bdig lo)) 22 (.tail _ (.head _)))), (fun h1 => ro_set (hF.j.2.1 h1)), (fun h1 => xo_set (hF.j.2.2.1 h1)), hF.j.2.2.2⟩
    · have ho' := ho
      obtain rfl := Option.some.inj ho
      have f16 := (factt hF hd 5 rfl rfl (by kernel_rfl)).1
      refine step_do ho' (wanted_free rfl) ?_
      unfold Oper.wp
      go_simp
      exact hK _ _ (.inr trivial) ⟨hF.j.1, hF.j.2.1, hF.j.2.2.1, (fun _ => rfl)⟩
    · cases ho
  intro L vs V9 hL hJ hf
  obtain ⟨hKq, -, hx, h7⟩ := hJ
  rw [hL 6 (by decide)] at hKq
  have hK : Kp [(b4, B32 (bdig lo), 22), (b2, B64 (bdig (two lo hi)), 24), (bR, B32 (bdig c), 22), (bA, B32 (bdig n), 22)] w V9 := hKq
  obtain ⟨aq, cq, gq, X, e5, hle, -, oX, hT⟩ := hx (hL 5 (by decide))
  have e7 := (h7 (hL 7 (by decide))).trans e5
  have e0 : vs 0 = _ := hf 0 _ _ rfl rfl
  have e1 : vs 1 = _ := hf 1 _ _ rfl rfl
  have e2 : vs 2 = _ := hf 2 _ _ rfl rfl
  have e3 : vs 3 = _ := hf 3 _ _ rfl rfl
  obtain ⟨a4, e4⟩ := hf 4 _ _ rfl rfl
  simp only [putAll, Nat.zero_add, Nat.reduceAdd, e0, e1, e2, e3, e4, e5, e7, Act.put, List.setIfInBounds_toArray, List.set_cons_succ, List.set_cons_zero]
  clear hKq hx h7 hf hL e0 e1 e2 e3 e4 e5 e7
  go_wp2_with fail
  exact bodyPost_ret (results_own_tmp Tryz.results41 _ _ bR (B32 (bdig c)) _ (by rfl) (hK.at bR (B32 (bdig c)) 22 (.tail _ (.tail _ (.head _)))) Tryz.underlying22 rfl (B32_info _)) rfl (seedR_mk rfl hT oX hle hK.2)
end Go.Proofs.YtgibllaifnnfkaaGreatDoor
namespace Go.Proofs.YtgibllaifnnfkaaGreatDoor
open Go Go.RowKit
def PA (r : N4) : Array Value := #[.int .u64 (dig r.X 0 : Int), .int .u64 (dig r.X 1 : Int), .int .u64 (dig r.X 2 : Int), .int .u64 (dig r.X 3 : Int), .int .u64 (dig r.Y 0 : Int), .int .u64 (dig r.Y 1 : Int), .int .u64 (dig r.Y 2 : Int), .int .u64 (dig r.Y 3 : Int), .int .u64 (dig r.Z 0 : Int), .int .u64 (dig r.Z 1 : Int), .int .u64 (dig r.Z 2 : Int), .int .u64 (dig r.Z 3 : Int), .int .u64 (dig r.T 0 : Int), .int .u64 (dig r.T 1 : Int), .int .u64 (dig r.T 2 : Int), .int .u64 (dig r.T 3 : Int)]
theorem infoPA : (Tryz.prog.info? 56).map (·.size) = some 16 := by kernel_rfl
theorem PA_info (r : N4) : (Tryz.prog.info? 56).map (·.size) = some (PA r).size := infoPA
theorem PA_one (r : N4) : (PA r).all (·.oneCell') = true := by simp [PA, Value.oneCell']
theorem PA_sizes (r s : N4) : (PA r).size = (PA s).size := rfl
theorem zeroPA : (Tryz.prog.info? 56).map (fun i => (i.zero, i.size)) = some (some (.agg (PA ⟨0, 0, 0, 0⟩)), 16) := by kernel_rfl
def N4.get (r : N4) : Nat → Nat
  | 0 => r.X
  | 1 => r.Y
  | 2 => r.Z
  | _ => r.T
theorem PA_part (r : N4) (k : Nat) (hk : k < 4) {w : World} {b : Nat} {t : TypeId} (h : Own w b (PA r) t) : w.rangeAt b (4 * k) (numA (r.get k)).toList := fun j v hv => by
  have hj : j < 4 := by
    have := (List.getElem?_eq_some_iff.1 hv).1
    simpa [numA, A4] using this
  refine h.cell ?_
  rw [← hv]
  rcases k with _ | _ | _ | _ | k
  · rcases j with _ | _ | _ | _ | j <;> first | rfl | omega
  · rcases j with _ | _ | _ | _ | j <;> first | rfl | omega
  · rcases j with _ | _ | _ | _ | j <;> first | rfl | omega
  · rcases j with _ | _ | _ | _ | j <;> first | rfl | omega
  · omega
theorem numA_len (n : Nat) : (Tryz.prog.info? 54).map (·.size) = some (numA n).toList.length := infoNum
theorem wp_load_part {op : Oper} {a : Act} {w : World} {K : Act → World → Prop} {Q : Exit → Act → World → Prop} (k : Nat) (hk : k < 4) (x : Operand) (ho : op.op = .load 54 x)
    (b : Nat) (hx : a.eval x = .pointer (some ⟨b, 4 * k, none⟩)) {r : N4} {t : TypeId} (hc : Own w b (PA r) t) (h : K (a.put op.dst (.agg (numA (r.get k)))) w) : op.wp Tryz.prog a w K Q :=
  wp_load_mid 54 x ho b (4 * k) hx (numA (r.get k)).toList _ (PA_part r k hk hc) Tryz.underlying54 rfl (numA_len _) h
theorem wpList_load_part {ops : Array Oper} {rest : List Oper} {op : Oper} {a : Act} {w : World} {Q : Exit → Act → World → Prop} (hgd : op.guard = none) (k : Nat) (hk : k < 4) (x : Operand) (ho : op.op = .load 54 x)
    (b : Nat) (hx : a.eval x = .pointer (some ⟨b, 4 * k, none⟩)) {r : N4} {t : TypeId} (hc : Own w b (PA r) t) (h : wpList Tryz.prog ops Q rest (a.put op.dst (.agg (numA (r.get k)))) w) : wpList Tryz.prog ops Q (op :: rest) a w :=
  wpList_load_mid hgd 54 x ho b (4 * k) hx (numA (r.get k)).toList _ (PA_part r k hk hc) Tryz.underlying54 rfl (numA_len _) h
end Go.Proofs.YtgibllaifnnfkaaGreatDoor
namespace Go.Proofs.YtgibllaifnnfkaaGreatDoor
open Go Go.RowKit
theorem subp_lt (a b : Nat) : subp a b < R256 := lt_of_mod
theorem fsub_at {a b c : Nat} (ha : a < R256) (hb : b < R256) (hc : subp a b = c) (w : World) : Calls Tryz.prog 70 #[.agg (numA a), .agg (numA b)] w fun e w' => e = .returned (.agg (numA c)) ∧ Below w.heap.size w w' := by
  rw [← hc]; exact fsub_any a b ha hb w
theorem fadd_at {a b c : Nat} (ha : a < R256) (hb : b < R256) (hc : (a + b) % pp = c) (w : World) : Calls Tryz.prog 72 #[.agg (numA a), .agg (numA b)] w fun e w' => e = .returned (.agg (numA c)) ∧ Below w.heap.size w w' := by
  rw [← hc]; exact fadd_any a b ha hb w
theorem inv_at {a c : Nat} (ha : a < R256) (hc : finv a = c) (w : World) : Calls Tryz.prog 71 #[.agg (numA a)] w fun x w' => x = .returned (.agg (numA c)) ∧ Below w.heap.size w w' := by
  rw [← hc]; exact inv_any a ha w
theorem finv_R (a : Nat) : finv a < R256 := Nat.lt_trans (finv_lt a) (by decide)
theorem PA_size (r : N4) : (PA r).size = 16 := rfl
theorem put0 (X Y Z T x : Nat) : Array.foldl (fun cs p => cs.setIfInBounds p.snd p.fst) (PA ⟨X, Y, Z, T⟩) (numA x).zipIdx 0 4 = PA ⟨x, Y, Z, T⟩ := by kernel_rfl
theorem put4 (X Y Z T x : Nat) : Array.foldl (fun cs p => cs.setIfInBounds (4 + p.snd) p.fst) (PA ⟨X, Y, Z, T⟩) (numA x).zipIdx 0 4 = PA ⟨X, x, Z, T⟩ := by kernel_rfl
theorem put8 (X Y Z T x : Nat) : Array.foldl (fun cs p => cs.setIfInBounds (8 + p.snd) p.fst) (PA ⟨X, Y, Z, T⟩) (numA x).zipIdx 0 4 = PA ⟨X, Y, x, T⟩ := by kernel_rfl
theorem put12 (X Y Z T x : Nat) : Array.foldl (fun cs p => cs.setIfInBounds (12 + p.snd) p.fst) (PA ⟨X, Y, Z, T⟩) (numA x).zipIdx 0 4 = PA ⟨X, Y, Z, x⟩ := by kernel_rfl
theorem wp_build_pt {op : Oper} {a : Act} {w : World} {K : Act → World → Prop} {Q : Exit → Act → World → Prop} (t0 t1 t2 t3 : Tmp) (X Y Z T : Nat) (ho : op.op = .build 56 #[(0, .tmp t0), (1, .tmp t1), (2, .tmp t2), (3, .tmp t3)])
    (f0 : a.tmps.getD t0 undef = .agg (numA X)) (f1 : a.tmps.getD t1 undef = .agg (numA Y)) (f2 : a.tmps.getD t2 undef = .agg (numA Z)) (f3 : a.tmps.getD t3 undef = .agg (numA T)) (h : K (a.put op.dst (.agg (PA ⟨X, Y, Z, T⟩))) w) : op.wp Tryz.prog a w K Q := by
  have hzP := (zero_of_info zeroPA).1
  have g0 := getq f0
  have g1 := getq f1
  have g2 := getq f2
  have g3 := getq f3
  unfold Oper.wp execOp
  rw [ho]
  go_simp
  simp only [numA_size, put0, put4, put8, put12, PA_size]
  go_simp
  exact h
theorem dd_page : subp 0 121665 * finv 121666 % pp = dd := by
  have h1 : subp 0 121665 = 121666 * dd % pp := by decide +kernel
  have h2 := finv_mul (a := 121666) (by decide)
  generalize finv 121666 = x at *
  rw [h1, Nat.mod_mul_mod, Nat.mul_right_comm, Nat.mul_mod, h2, Nat.one_mul, Nat.mod_mod, Nat.mod_eq_of_lt dd_lt]
set_option maxRecDepth 100000 in
set_option maxHeartbeats 4000000 in
theorem d_any (w : World) : Calls Tryz.prog 73 #[] w fun x w' => x = .returned (.agg (numA dd)) ∧ Below w.heap.size w w' := by
  have hz := (zero_of_info zeroLit).1
  obtain ⟨r, Hd⟩ : ∃ r, Hid (dd = r) := ⟨_, rfl⟩
  obtain ⟨s, Hs⟩ : ∃ x, Hid (subp 0 121665 = x) := ⟨_, rfl⟩
  obtain ⟨i, Hi⟩ : ∃ x, Hid (finv 121666 = x) := ⟨_, rfl⟩
  have Hr : Hid (s * i % pp = r) := by show _ = _; rw [← Hd.out, ← Hs.out, ← Hi.out]; exact dd_page
  have hs : s < R256 := by rw [← Hs.out]; exact subp_lt _ _
  have hi : i < R256 := by rw [← Hi.out]; exact finv_R _
  rw [Hd.out]
  go_enter Tryz.func73, Tryz.ntmps73
  go_upto_region 1 with fail
  have hK := (Kp.nil w).alloc (numA 0) 54
  rw [show (#[.int .u64 0, .int .u64 0, .int .u64 0, .int .u64 0] : Array Value) = numA 0 from rfl]
  generalize w.alloc (.cells (numA 0) 54) = W at *
  obtain ⟨bR, HbR⟩ : ∃ b, Hid (w.heap.size = b) := ⟨_, rfl⟩
  have le_bR : Hid (w.heap.size ≤ bR) := by show _ ≤ _; have := HbR.out; omega
  rw [HbR.out] at hK ⊢
  go_wp2_with fail
  rw [show (#[.int .u64 0, .int .u64 0, .int .u64 0, .int .u64 0] : Array Value) = numA 0 from rfl]
  rw [show (#[.int .u64 121665, .int .u64 0, .int .u64 0, .int .u64 0] : Array Value) = numA 121665 from (numA_word 121665 (by decide)).symm]
  refine (fsub_at (by decide) (by decide) Hs.out _).mono ?_
  rintro e V1 ⟨rfl, bw⟩
  have hK := hK.below bw
  clear bw
  go_wp2_with fail
  rw [show (#[.int .u64 121666, .int .u64 0, .int .u64 0, .int .u64 0] : Array Value) = numA 121666 from (numA_word 121666 (by decide)).symm]
  refine (inv_at (by decide) Hi.out _).mono ?_
  rintro e V2 ⟨rfl, bw⟩
  have hK := hK.below bw
  clear bw
  go_wp2_with fail
  refine (mul_at hs hi Hr.out _).mono ?_
  rintro e V3 ⟨rfl, bw⟩
  have hK := hK.below bw
  clear bw
  go_wp2_with (refine wpList_store_own (by rfl) 54 (.tmp 0) (.tmp 6) (by rfl) bR 0 (numA r) (by rfl) (by rfl) (hK.at bR (numA 0) 54 (.head _)) (Nat.le_refl _) (numA_info _) (numA_one _) (by rfl) ?_)
  exact bodyPost_ret (results_own Tryz.results73 _ _ bR (numA r) _ (by rfl) (own_setCells (hK.at bR (numA 0) 54 (.head _)) (numA_sizes _ _)) Tryz.underlying54 rfl (numA_info _)) rfl ⟨rfl, Below.setCells _ _ _ _ le_bR.out hK.2⟩
set_option maxRecDepth 100000 in
set_option maxHeartbeats 4000000 in
theorem zero_any (w : World) : Calls Tryz.prog 106 #[] w fun x w' => x = .returned (.agg (PA zero4)) ∧ Below w.heap.size w w' := by
  have hz := (zero_of_info zeroLit).1
  have hzP := (zero_of_info zeroPA).1
  go_enter Tryz.func106, Tryz.ntmps106
  go_upto_region 1 with fail
  have hK := (Kp.nil w).alloc (PA ⟨0, 0, 0, 0⟩) 56
  generalize w.alloc (.cells (PA ⟨0, 0, 0, 0⟩) 56) = W at *
  obtain ⟨bR, HbR⟩ : ∃ b, Hid (w.heap.size = b) := ⟨_, rfl⟩
  have le_bR : Hid (w.heap.size ≤ bR) := by show _ ≤ _; have := HbR.out; omega
  rw [HbR.out] at hK ⊢
  go_wp2_with (refine wpList_store_own (by rfl) 56 (.tmp 0) (.tmp 5) (by rfl) bR 0 (PA zero4) (by rfl) (by rfl) (hK.at bR (PA ⟨0, 0, 0, 0⟩) 56 (.head _)) (Nat.le_refl _) (PA_info _) (PA_one _) (by rfl) ?_)
  exact bodyPost_ret (results_own Tryz.results106 _ _ bR (PA zero4) _ (by rfl) (own_setCells (hK.at bR (PA ⟨0, 0, 0, 0⟩) 56 (.head _)) (PA_sizes _ _)) Tryz.underlying56 rfl (PA_info _)) rfl ⟨rfl, Below.setCells _ _ _ _ le_bR.out hK.2⟩
end Go.Proofs.YtgibllaifnnfkaaGreatDoor
