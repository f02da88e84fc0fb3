/- Of the texts SH1, SP1, SB1, SS1: what the card of this claim reaches. -/
import Derived.Test.YtgibllaifnnfkaaGreatDoorXE23
import Derived.Test.YtgibllaifnnfkaaGreatDoorXE4
namespace Go.Proofs.YtgibllaifnnfkaaGreatDoor
open Go Go.RowKit
theorem upd_upd (f : Nat → Nat) (i x y : Nat) : upd (upd f i x) i y = upd f i y := by
  funext j
  by_cases h : j = i
  · subst h; rw [upd_same, upd_same]
  · rw [upd_other _ _ _ _ h, upd_other _ _ _ _ h, upd_other _ _ _ _ h]
theorem results_own2 {P : Program} {fn : Func} {p u : Tmp} {ty ty' : TypeId} (h : fn.results = #[.cell p ty, .cell u ty']) (tmps : Array Value) (w : World) (b : Nat) (A : Array Value) (b' : Nat) (A' : Array Value) (d d' : TypeDesc)
    (hp : tmps.getD p undef = .pointer (some ⟨b, 0, none⟩)) (hp' : tmps.getD u undef = .pointer (some ⟨b', 0, none⟩)) {t t' : TypeId} (ho : Own w b A t) (ho' : Own w b' A' t') (hu : P.underlying ty = some d) (hd : d.isRow = true) (hi : (P.info? ty).map (·.size) = some A.size) (hu' : P.underlying ty' = some d') (hd' : d'.isRow = true) (hi' : (P.info? ty').map (·.size) = some A'.size) :
    (results fn tmps).run P w = .ok (.tuple #[.agg A, .agg A']) w := by
  have h1 := run_loadVar_mid w b 0 ty A.toList d ho.range hu hd (by simpa using hi)
  have h2 := run_loadVar_mid w b' 0 ty' A'.toList d' ho'.range hu' hd' (by simpa using hi')
  have hp2 : tmps[p]?.getD undef = .pointer (some ⟨b, 0, none⟩) := by rw [← hp]; simp
  have hp3 : tmps[u]?.getD undef = .pointer (some ⟨b', 0, none⟩) := by rw [← hp']; simp
  simp [results, h, hp2, hp3, asAddr, h1, h2]
set_option maxRecDepth 100000 in
set_option maxHeartbeats 4000000 in
theorem halves_at {T : World → Prop} (F : Low T) {n lo hi c : Nat} (Hd : Hid (dn (by32 n) = two lo hi)) (llo : Hid (lo < R256)) (Hc : Hid (clamp lo = c)) (w : World) (hT : T w) : Calls Tryz.prog 25 #[.agg (B32 (bdig n))] w fun x w' => x = .returned (.tuple #[.agg (B32 (bdig c)), .agg (B32 (bdig hi))]) ∧ Below w.heap.size w w' := by
  have hz := (zero_of_info zeroB32).1
  have hz64 := (zero_of_info zeroB64).1
  have hfl : Hid ([by32 n].flatten = by32 n) := by show _ = _; simp
  have hln : Hid ((by32 n).length ≤ 16000000) := by show _ ≤ _; rw [by32_length]; decide
  obtain ⟨x0, Hx0⟩ : ∃ x, Hid (bdig lo 0 = x) := ⟨_, rfl⟩
  obtain ⟨x31, Hx31⟩ : ∃ x, Hid (bdig lo 31 = x) := ⟨_, rfl⟩
  have lx0 : x0 < 256 := by rw [← Hx0.out]; exact bdig_lt _ _
  have lx31 : x31 < 256 := by rw [← Hx31.out]; exact bdig_lt _ _
  obtain ⟨y0, Hy0⟩ : ∃ y, Hid (x0 / 8 * 8 = y) := ⟨_, rfl⟩
  obtain ⟨y1, Hy1⟩ : ∃ y, Hid (x31 % 128 = y) := ⟨_, rfl⟩
  obtain ⟨y2, Hy2⟩ : ∃ y, Hid (x31 % 64 + 64 = y) := ⟨_, rfl⟩
  have hb0 : Hid (bits .andNot .u8 (x0 : Int) 7 = (y0 : Int)) := by show _ = _; rw [← Hy0.out]; exact low_bits ⟨x0, lx0⟩
  have hb1 : Hid (bits .andNot .u8 (x31 : Int) 128 = (y1 : Int)) := by show _ = _; rw [← Hy1.out]; exact top_off ⟨x31, lx31⟩
  have hb2 : Hid (bits .or .u8 (y1 : Int) 64 = (y2 : Int)) := by
    have := top_on ⟨x31 % 128, Nat.mod_lt _ (by decide)⟩
    show _ = _
    rw [show x31 % 128 % 64 = x31 % 64 by omega] at this
    rw [← Hy1.out, ← Hy2.out]
    exact this
  have lx0 := show Hid _ from lx0
  have lx31 := show Hid _ from lx31
  go_enter Tryz.func25, Tryz.ntmps25
  go_upto_region 1 with fail
  have hK := (((Kp.nil w).alloc (B32 (bdig n)) 22).alloc (B32 fun _ => 0) 22).alloc (B32 fun _ => 0) 22
  rw [World.size_alloc, World.size_alloc] at hK
  generalize ((w.alloc (.cells (B32 (bdig n)) 22)).alloc (.cells (B32 fun _ => 0) 22)).alloc (.cells (B32 fun _ => 0) 22) = W at *
  obtain ⟨bA, HbA⟩ : ∃ b, Hid (w.heap.size = b) := ⟨_, rfl⟩
  obtain ⟨bN, HbN⟩ : ∃ b, Hid (bA + 1 = b) := ⟨_, rfl⟩
  obtain ⟨bP, HbP⟩ : ∃ b, Hid (bN + 1 = b) := ⟨_, rfl⟩
  have le_bA : Hid (w.heap.size ≤ bA) := by show _ ≤ _; have := HbA.out; omega
  have le_bN : Hid (w.heap.size ≤ bN) := by show _ ≤ _; have := HbA.out; have := HbN.out; omega
  have le_bP : Hid (w.heap.size ≤ bP) := by show _ ≤ _; have := HbA.out; have := HbN.out; have := HbP.out; omega
  have ne_bA_bN : Hid (bA ≠ bN) := by show _ ≠ _; have := HbN.out; omega
  have ne_bA_bP : Hid (bA ≠ bP) := by show _ ≠ _; have := HbN.out; have := HbP.out; omega
  have ne_bN_bP : Hid (bN ≠ bP) := by show _ ≠ _; have := HbP.out; omega
  rw [HbA.out, HbN.out, HbP.out] at hK ⊢
  go_wp2_with fail
  have hq := rows1 (bytes_own (hK.at bA (B32 (bdig n)) 22 (.tail _ (.tail _ (.head _))))) (fun h => by cases h)
  have hK := hK.below (alloc_below W (.cells #[.slice (some ⟨bA, 0, none⟩) 32 32] 23))
  refine (F.wsumA hfl.out Hd.out hln.out _ (F.keep _ _ hT hK.2) hq).mono ?_
  rintro e V1 ⟨rfl, bw⟩
  have hK := hK.below bw
  clear bw hq
  go_upto_region 2 with (refine wpList_store_new (by rfl) 24 (.tmp 4) (.tmp 7) (by rfl) _ (B64 (bdig (two lo hi))) (by rfl) (by rfl) (B64_info _) (B64_sizes _ _) (B64_one _) (by rfl) ?_)
  have lt_bP := (hK.at bP (B32 fun _ => 0) 22 (.head _)).lt
  have lt_bN := (hK.at bN (B32 fun _ => 0) 22 (.tail _ (.head _))).lt
  have lt_bA := (hK.at bA (B32 (bdig n)) 22 (.tail _ (.tail _ (.head _)))).lt
  have le_b2 := show Hid _ from hK.2.size
  have hK := hK.alloc (B64 (bdig (two lo hi))) 24
  generalize V1.alloc (.cells (B64 (bdig (two lo hi))) 24) = V3 at *
  obtain ⟨b2, Hb2⟩ : ∃ b, Hid (V1.heap.size = b) := ⟨_, rfl⟩
  have ne_bP_b2 : Hid (bP ≠ b2) := by show _ ≠ _; rw [← Hb2.out]; exact Nat.ne_of_lt lt_bP
  have ne_bN_b2 : Hid (bN ≠ b2) := by show _ ≠ _; rw [← Hb2.out]; exact Nat.ne_of_lt lt_bN
  have ne_bA_b2 : Hid (bA ≠ b2) := by show _ ≠ _; rw [← Hb2.out]; exact Nat.ne_of_lt lt_bA
  have le_b2 : Hid (w.heap.size ≤ b2) := by show _ ≤ _; rw [← Hb2.out]; exact le_b2.out
  rw [Hb2.out] at hK ⊢
  clear lt_bP lt_bN lt_bA
  refine wp_region_lv 28 (fun L => [(b2, B64 (bdig (two lo hi)), 24), (bP, if L 7 = true then B32 (bdig hi) else B32 fun _ => 0, 22), (bN, if L 6 = true then B32 (bdig lo) else B32 fun _ => 0, 22), (bA, B32 (bdig n), 22)]) [.v (.slice (some ⟨b2, 0, none⟩) 32 64), .v (.pointer (some ⟨b2, 0, none⟩)), .v (.agg (B32 (bdig lo))), .v (.slice (some ⟨b2, 32, none⟩) 32 32), .v (.pointer (some ⟨b2, 32, none⟩)), .v (.agg (B32 (bdig hi))), .o, .o] hK (by kernel_rfl) (by kernel_rfl) (by kernel_rfl) (by rfl) ?_ ?_
  · exact .c (.p1 4 (.pointer (some ⟨b2, 0, none⟩))) <| .c (.p1 8 (.slice (some ⟨b2, 0, none⟩) 32 64)) <| .c (.x [(9, .pointer (some ⟨b2, 0, none⟩))] fun _ _ _ _ _ hfx hkx hx => wp_load_mid 22 (.tmp 9) rfl b2 0 (hfx _ (.head _)) (B32 (bdig lo)).toList _ (B64_lo2 llo.out (hkx.at b2 (B64 (bdig (two lo hi))) 24 (.head _))) Tryz.underlying22 rfl (B32_len7 _) (hx _ _ rfl (Below.refl _ _))) <| .c (.p1 4 (.pointer (some ⟨b2, 0, none⟩))) <| .c (.p1 11 (.slice (some ⟨b2, 32, none⟩) 32 32)) <| .c (.x [(12, .pointer (some ⟨b2, 32, none⟩))] fun _ _ _ _ _ hfx hkx hx => wp_load_mid 22 (.tmp 12) rfl b2 32 (hfx _ (.head _)) (B32 (bdig hi)).toList _ (B64_hi2 llo.out (hkx.at b2 (B64 (bdig (two lo hi))) 24 (.head _))) Tryz.underlying22 rfl (B32_len7 _) (hx _ _ rfl (Below.refl _ _))) <| .c (.sk bN (.nx (fun _ => rfl) (fun _ => rfl) (fun _ => Ne.symm ne_bN_b2.out) <| .nx (fun _ => rfl) (fun _ => rfl) (fun _ => Ne.symm ne_bN_bP.out) <| .hr (fun _ => rfl) (fun _ => rfl) (fun _ => fc ne_bA_bN <| fn)) le_bN.out (B32_info _) (B32_one _)) <| .c (.sk bP (.nx (fun _ => rfl) (fun _ => rfl) (fun _ => Ne.symm ne_bP_b2.out) <| .hr (fun _ => rfl) (fun _ => rfl) (fun _ => fc ne_bN_bP <| fc ne_bA_bP <| fn)) le_bP.out (B32_info _) (B32_one _)) .nil
  intro _ V4 hJ _
  have hK : Kp [(b2, B64 (bdig (two lo hi)), 24), (bP, B32 (bdig hi), 22), (bN, B32 (bdig lo), 22), (bA, B32 (bdig n), 22)] w V4 := hJ.1
  clear hJ
  simp only [putL, Lv.val, Act.put, List.setIfInBounds_toArray, List.set_cons_succ, List.set_cons_zero]
  have oN := (hK.at bN (B32 (bdig lo)) 22 (.tail _ (.tail _ (.head _))))
  have hK : Kp [(bN, B32 (bdig lo), 22), (b2, B64 (bdig (two lo hi)), 24), (bP, B32 (bdig hi), 22), (bA, B32 (bdig n), 22)] w V4 := ((((hK.none.cons (hK.at bA (B32 (bdig n)) 22 (.tail _ (.tail _ (.tail _ (.head _)))))).cons (hK.at bP (B32 (bdig hi)) 22 (.tail _ (.head _)))).cons (hK.at b2 (B64 (bdig (two lo hi))) 24 (.head _))).cons (hK.at bN (B32 (bdig lo)) 22 (.tail _ (.tail _ (.head _)))))
  have fr := fun (A : Array Value) (W : World) (i : Nat) (h : Own W bN A 22) => h.frozen i
  have cq : V4.cell? ⟨bN, 0, none⟩ = some (.int .u8 (x0 : Int)) := by have := (hK.at bN (B32 (bdig lo)) 22 (.head _)).cell (B32_at (bdig lo) 0 (by decide)); rw [Hx0.out] at this; exact this
  have fq := (hK.at bN (B32 (bdig lo)) 22 (.head _)).frozen 0
  go_upto_region 4 with fail
  rw [hb0.out]
  have hK := Kp.setCell (i := 0) (v := .int .u8 (y0 : Int)) hK (by simp only [List.forall_mem_cons, List.not_mem_nil, false_implies, implies_true, and_true]; exact ⟨(Ne.symm ne_bN_b2.out), (Ne.symm ne_bN_bP.out), ne_bA_bN.out⟩) le_bN.out
  rw [B32_set (bdig lo) 0 y0 (by decide)] at hK
  generalize V4.setCell ⟨bN, 0, none⟩ (.int .u8 (y0 : Int)) = V5 at *
  clear cq fq
  have cq : V5.cell? ⟨bN, 31, none⟩ = some (.int .u8 (x31 : Int)) := by have := (hK.at bN (B32 (upd (bdig lo) 0 y0)) 22 (.head _)).cell (B32_at (upd (bdig lo) 0 y0) 31 (by decide)); rw [upd_other _ _ _ _ (by decide), Hx31.out] at this; exact this
  have fq := (hK.at bN (B32 (upd (bdig lo) 0 y0)) 22 (.head _)).frozen 31
  go_upto_region 5 with fail
  rw [hb1.out]
  have hK := Kp.setCell (i := 31) (v := .int .u8 (y1 : Int)) hK (by simp only [List.forall_mem_cons, List.not_mem_nil, false_implies, implies_true, and_true]; exact ⟨(Ne.symm ne_bN_b2.out), (Ne.symm ne_bN_bP.out), ne_bA_bN.out⟩) le_bN.out
  rw [B32_set (upd (bdig lo) 0 y0) 31 y1 (by decide)] at hK
  generalize V5.setCell ⟨bN, 31, none⟩ (.int .u8 (y1 : Int)) = V6 at *
  clear cq fq
  have cq : V6.cell? ⟨bN, 31, none⟩ = some (.int .u8 (y1 : Int)) := by have := (hK.at bN (B32 (upd (upd (bdig lo) 0 y0) 31 y1)) 22 (.head _)).cell (B32_at (upd (upd (bdig lo) 0 y0) 31 y1) 31 (by decide)); rw [upd_same] at this; exact this
  have fq := (hK.at bN (B32 (upd (upd (bdig lo) 0 y0) 31 y1)) 22 (.head _)).frozen 31
  go_upto_region 6 with fail
  rw [hb2.out]
  have hK := Kp.setCell (i := 31) (v := .int .u8 (y2 : Int)) hK (by simp only [List.forall_mem_cons, List.not_mem_nil, false_implies, implies_true, and_true]; exact ⟨(Ne.symm ne_bN_b2.out), (Ne.symm ne_bN_bP.out), ne_bA_bN.out⟩) le_bN.out
  rw [B32_set (upd (upd (bdig lo) 0 y0) 31 y1) 31 y2 (by decide)] at hK
  generalize V6.setCell ⟨bN, 31, none⟩ (.int .u8 (y2 : Int)) = V7 at *
  clear cq fq
  rw [show B32 (upd (upd (upd (bdig lo) 0 y0) 31 y1) 31 y2) = B32 (bdig c) by rw [upd_upd, ← Hy0.out, ← Hy2.out, ← Hx0.out, ← Hx31.out, B32_clamp, Hc.out]] at hK
  refine wp_region_lv 28 (fun L => [(bN, if L 2 = true then B32 (bdig c) else B32 (bdig c), 22), (b2, B64 (bdig (two lo hi)), 24), (bP, if L 3 = true then B32 (bdig hi) else B32 (bdig hi), 22), (bA, B32 (bdig n), 22)]) [.v (.agg (B32 (bdig c))), .v (.agg (B32 (bdig hi))), .o, .o] hK (by kernel_rfl) (by kernel_rfl) (by kernel_rfl) (by rfl) ?_ ?_
  · exact .c (.lq bN 2 false (fun L h => by rw [h]; exact .head _) Tryz.underlying22 rfl (B32_info _)) <| .c (.lq bP 3 false (fun L h => by rw [h]; exact .tail _ (.tail _ (.head _))) Tryz.underlying22 rfl (B32_info _)) <| .c (.sk bN (.hr (fun _ => rfl) (fun _ => rfl) (fun _ => fs ne_bN_b2 <| fs ne_bN_bP <| fc ne_bA_bN <| fn)) le_bN.out (B32_info _) (B32_one _)) <| .c (.sk bP (.nx (fun _ => rfl) (fun _ => rfl) (fun _ => ne_bN_bP.out) <| .nx (fun _ => rfl) (fun _ => rfl) (fun _ => Ne.symm ne_bP_b2.out) <| .hr (fun _ => rfl) (fun _ => rfl) (fun _ => fc ne_bA_bP <| fn)) le_bP.out (B32_info _) (B32_one _)) .nil
  intro _ V8 hJ _
  have hK : Kp [(bN, B32 (bdig c), 22), (b2, B64 (bdig (two lo hi)), 24), (bP, B32 (bdig hi), 22), (bA, B32 (bdig n), 22)] w V8 := hJ.1
  clear hJ
  simp only [putL, Lv.val, Act.put, List.setIfInBounds_toArray, List.set_cons_succ, List.set_cons_zero]
  go_wp2_with fail
  exact bodyPost_ret (results_own2 Tryz.results25 _ _ bN (B32 (bdig c)) bP (B32 (bdig hi)) _ _ (by rfl) (by rfl) (hK.at bN (B32 (bdig c)) 22 (.head _)) (hK.at bP (B32 (bdig hi)) 22 (.tail _ (.tail _ (.head _)))) Tryz.underlying22 rfl (B32_info _) Tryz.underlying22 rfl (B32_info _)) rfl ⟨rfl, hK.2⟩
end Go.Proofs.YtgibllaifnnfkaaGreatDoor
namespace Go.Proofs.YtgibllaifnnfkaaGreatDoor
open Go Go.RowKit
set_option maxRecDepth 100000 in
set_option maxHeartbeats 4000000 in
theorem public_at {T : World → Prop} (F : Low T) {n lo hi c y : Nat} (Hd : Hid (dn (by32 n) = two lo hi)) (llo : Hid (lo < R256)) (Hc : Hid (clamp lo = c)) (Hy : Hid (enc (Pt.times c BP) = y)) (w : World) (hT : T w) : Calls Tryz.prog 14 #[.agg (B32 (bdig n))] w fun x w' => x = .returned (.agg (B32 (bdig y))) ∧ Below w.heap.size w w' := by
  have hz := (zero_of_info zeroB32).1
  have lc : Hid (c < R256) := by show _ < _; rw [← Hc.out]; exact clamp_lt _
  go_enter Tryz.func14, Tryz.ntmps14
  go_upto_region 1 with fail
  have hK := ((Kp.nil w).alloc (B32 (bdig n)) 22).alloc (B32 fun _ => 0) 22
  rw [World.size_alloc] at hK
  generalize (w.alloc (.cells (B32 (bdig n)) 22)).alloc (.cells (B32 fun _ => 0) 22) = W at *
  obtain ⟨bA, HbA⟩ : ∃ b, Hid (w.heap.size = b) := ⟨_, rfl⟩
  obtain ⟨bR, HbR⟩ : ∃ b, Hid (bA + 1 = b) := ⟨_, rfl⟩
  have le_bA : Hid (w.heap.size ≤ bA) := by show _ ≤ _; have := HbA.out; omega
  have le_bR : Hid (w.heap.size ≤ bR) := by show _ ≤ _; have := HbA.out; have := HbR.out; omega
  have ne_bA_bR : Hid (bA ≠ bR) := by show _ ≠ _; have := HbR.out; omega
  rw [HbA.out, HbR.out] at hK ⊢
  go_wp2_with (refine wpList_load_own (by rfl) 22 (.tmp 1) (by rfl) bA (by rfl) (B32 (bdig n)) _ (hK.at bA (B32 (bdig n)) 22 (.tail _ (.head _))) Tryz.underlying22 (by rfl) (B32_info _) ?_)
  refine (halves_at F Hd llo Hc _ (F.keep _ _ hT hK.2)).mono ?_
  rintro e V1 ⟨rfl, bw⟩
  have hK := hK.below bw
  clear bw
  go_upto_region 2 with ((refine wpList_news2 hK 22 22 3 4 8 9 (by rfl) (by rfl) (by rfl) (by rfl) (by rfl) (by rfl) (by rfl) (by rfl) (by rfl) (by rfl) (by rfl) (by rfl) hz hz (of_decide_eq_true (by rfl)) (of_decide_eq_true (by rfl)) (by decide) (by decide) (by decide) (by decide) (by decide) (by rfl) (by rfl) (B32_sizes _ _) (B32_sizes _ _) (B32_info _) (B32_info _) (B32_one _) (B32_one _) ?_; intro b2 b3 V4 le_b2 le_b3 ne_b2_b3 ap1 ap2 hK))
  have le_b2 := show Hid _ from le_b2
  have le_b3 := show Hid _ from le_b3
  have ne_b2_b3 := show Hid _ from ne_b2_b3
  have ne_bR_b2 : Hid (bR ≠ b2) := ap1 (bR, B32 fun _ => 0, 22) (.head _)
  have ne_bR_b3 : Hid (bR ≠ b3) := ap2 (bR, B32 fun _ => 0, 22) (.head _)
  have ne_bA_b2 : Hid (bA ≠ b2) := ap1 (bA, B32 (bdig n), 22) (.tail _ (.head _))
  have ne_bA_b3 : Hid (bA ≠ b3) := ap2 (bA, B32 (bdig n), 22) (.tail _ (.head _))
  clear ap1 ap2
  go_wp2_with (refine wpList_load_own (by rfl) 22 (.tmp 3) (by rfl) b2 (by rfl) (B32 (bdig c)) _ (hK.at b2 (B32 (bdig c)) 22 (.tail _ (.head _))) Tryz.underlying22 (by rfl) (B32_info _) ?_)
  refine (F.baseA lc.out Hy.out _ (F.keep _ _ hT hK.2)).mono ?_
  rintro e V5 ⟨rfl, bw⟩
  have hK := hK.below bw
  clear bw
  go_wp2_with (refine wpList_store_own (op := { dst := none, op := _, type := _, pos := _, after := _, guard := _ }) rfl 22 (.tmp 2) (.tmp 11) rfl bR 0 (B32 (bdig y)) (by rfl) (by rfl) (hK.at bR (B32 fun _ => 0) 22 (.tail _ (.tail _ (.head _)))) (B32_le _ _) (B32_info _) (B32_one _) (by rfl) ?_)
  exact bodyPost_ret (results_own Tryz.results14 _ _ bR (B32 (bdig y)) _ (by rfl) (own_setCells (hK.at bR (B32 fun _ => 0) 22 (.tail _ (.tail _ (.head _)))) (B32_sizes _ _)) Tryz.underlying22 rfl (B32_info _)) rfl ⟨rfl, Below.setCells _ _ _ _ le_bR.out hK.2⟩
end Go.Proofs.YtgibllaifnnfkaaGreatDoor
namespace Go.Proofs.YtgibllaifnnfkaaGreatDoor
open Go Go.RowKit
def factBound (z k bA bB : Nat) (ta : Option Addr) (tc : Nat) (m : List Int) : Nat → Value → Prop
  | 0, vq => vq = .slice (some ⟨bA, 0, none⟩) 32 32
  | 1, vq => vq = .slice (some ⟨bB, 0, none⟩) 32 32
  | 2, vq => vq = .slice ta m.length tc
  | 4, vq => vq = .agg (B64 (bdig z))
  | 5, vq => vq = .agg (B32 (bdig k))
  | 3, vq => ∃ aq, vq = .slice aq 3 3
  | _, _ => True
set_option maxRecDepth 100000 in
set_option maxHeartbeats 4000000 in
theorem bound_at {T : World → Prop} (F : Low T) {p q k : Nat} {ta : Option Addr} {tc : Nat} {m : List Int} (Hk : Hid (dn (by32 p ++ (by32 q ++ m)) % LL = k)) (hl : m.length ≤ 1000) (w : World) (hT : T w) (hm : Txt w ta tc m) : Calls Tryz.prog 31 #[.agg (B32 (bdig p)), .agg (B32 (bdig q)), .slice ta m.length tc] w fun x w' => x = .returned (.agg (B32 (bdig k))) ∧ Below w.heap.size w w' := by
  have hz := (zero_of_info zeroB32).1
  obtain ⟨z, Hz⟩ : ∃ z, Hid (dn (by32 p ++ (by32 q ++ m)) = z) := ⟨_, rfl⟩
  have hzl : z < R512 := by rw [← Hz.out]; exact dn_lt _
  have hzk : z % LL = k := by rw [← Hz.out]; exact Hk.out
  have hfl : [by32 p, by32 q, m].flatten = by32 p ++ (by32 q ++ m) := by simp
  have hln : (by32 p ++ (by32 q ++ m)).length ≤ 16000000 := by rw [List.length_append, List.length_append, by32_length, by32_length]; omega
  have hzl := show Hid _ from hzl
  have hzk := show Hid _ from hzk
  have hfl := show Hid _ from hfl
  have hln := show Hid _ from hln
  go_enter Tryz.func31, Tryz.ntmps31
  go_upto_region 1 with fail
  have hK := (((Kp.nil w).alloc (B32 (bdig p)) 22).alloc (B32 (bdig q)) 22).alloc (B32 fun _ => 0) 22
  rw [World.size_alloc, World.size_alloc] at hK
  generalize ((w.alloc (.cells (B32 (bdig p)) 22)).alloc (.cells (B32 (bdig q)) 22)).alloc (.cells (B32 fun _ => 0) 22) = W at *
  obtain ⟨bA, HbA⟩ : ∃ b, Hid (w.heap.size = b) := ⟨_, rfl⟩
  obtain ⟨bB, HbB⟩ : ∃ b, Hid (bA + 1 = b) := ⟨_, rfl⟩
  obtain ⟨bR, HbR⟩ : ∃ b, Hid (bB + 1 = b) := ⟨_, rfl⟩
  have le_bA : Hid (w.heap.size ≤ bA) := by show _ ≤ _; have := HbA.out; omega
  have le_bB : Hid (w.heap.size ≤ bB) := by show _ ≤ _; have := HbA.out; have := HbB.out; omega
  have le_bR : Hid (w.heap.size ≤ bR) := by show _ ≤ _; have := HbA.out; have := HbB.out; have := HbR.out; omega
  have ne_bA_bB : Hid (bA ≠ bB) := by show _ ≠ _; have := HbB.out; omega
  have ne_bA_bR : Hid (bA ≠ bR) := by show _ ≠ _; have := HbB.out; have := HbR.out; omega
  have ne_bB_bR : Hid (bB ≠ bR) := by show _ ≠ _; have := HbR.out; omega
  rw [HbA.out, HbB.out, HbR.out] at hK ⊢
  refine wp_region_told 13 (by kernel_rfl) (by kernel_rfl) (by rfl) (factBound z k bA bB ta tc m) (fun L vs wq => Kp [(bR, if L 6 = true then B32 (bdig k) else B32 fun _ => 0, 22), (bB, B32 (bdig q), 22), (bA, B32 (bdig p), 22)] w wq ∧ (L 3 = true → L 4 = false → ∃ aq, vs 3 = .slice aq 3 3 ∧ H.RowsV wq aq 3 3 [by32 p, by32 q, m])) (fun _ => ⟨hK.drew, fun h => by cases h⟩) ?_ ?_
  · intro L vs ac wc i o hF hLi ho hd K hK
    rcases i with _ | _ | _ | _ | _ | _ | _ | i
    · have ho' := ho
      obtain rfl := Option.some.inj ho
      have f3 : ac.tmps.getD 3 undef = .pointer (some ⟨bA, 0, none⟩) := slott hF 0 hLi 3 (by kernel_rfl)
      refine step_do ho' (wanted_free rfl) ?_
      unfold Oper.wp
      go_simp
      exact hK _ _ (.inr rfl) ⟨hF.j.1, hF.j.2⟩
    · have ho' := ho
      obtain rfl := Option.some.inj ho
      have f4 : ac.tmps.getD 4 undef = .pointer (some ⟨bB, 0, none⟩) := slott hF 1 hLi 4 (by kernel_rfl)
      refine step_do ho' (wanted_free rfl) ?_
      unfold Oper.wp
      go_simp
      exact hK _ _ (.inr rfl) ⟨hF.j.1, hF.j.2⟩
    · have ho' := ho
      obtain rfl := Option.some.inj ho
      have f2 : ac.tmps.getD 2 undef = .slice ta m.length tc := slott hF 2 hLi 2 (by kernel_rfl)
      refine step_do ho' (wanted_free rfl) ?_
      unfold Oper.wp
      go_simp
      exact hK _ _ (.inr rfl) ⟨hF.j.1, hF.j.2⟩
    · have ho' := ho
      obtain rfl := Option.some.inj ho
      have f7 : ac.tmps.getD 7 undef = .slice (some ⟨bA, 0, none⟩) 32 32 := (factt hF hd 0 rfl rfl (by kernel_rfl)).1.trans (factt hF hd 0 rfl rfl (by kernel_rfl)).2
      have f8 : ac.tmps.getD 8 undef = .slice (some ⟨bB, 0, none⟩) 32 32 := (factt hF hd 1 rfl rfl (by kernel_rfl)).1.trans (factt hF hd 1 rfl rfl (by kernel_rfl)).2
      have f9 : ac.tmps.getD 9 undef = .slice ta m.length tc := (factt hF hd 2 rfl rfl (by kernel_rfl)).1.trans (factt hF hd 2 rfl rfl (by kernel_rfl)).2
      refine step_do ho' (wanted_free rfl) ?_
      have q7 := getq f7
      have q8 := getq f8
      have q9 := getq f9
      unfold Oper.wp
      go_simp
      exact hK _ _ (.inr ⟨_, rfl⟩) ⟨(hF.j.1).below (alloc_below _ _), fun _ _ => ⟨_, rfl, rows3 (bytes_own (hF.j.1.at bA (B32 (bdig p)) 22 (.tail _ (.tail _ (.head _))))) (fun h => by cases h) (bytes_own (hF.j.1.at bB (B32 (bdig q)) 22 (.tail _ (.head _)))) (fun h => by cases h) ((hm.below hF.j.1.2).1) hm.2⟩⟩
    · have ho' := ho
      obtain rfl := Option.some.inj ho
      refine step_do ho' (wanted_free rfl) ?_
      obtain ⟨aq, eq, hq⟩ := hF.j.2 (dep hd 3 (by kernel_rfl)) hLi
      have f10 := (factt hF hd 3 rfl rfl (by kernel_rfl)).1
      rw [eq] at f10
      unfold Oper.wp
      go_simp
      refine (F.wsumA hfl.out Hz.out hln.out _ (F.keep _ _ hT hF.j.1.2) hq).mono ?_
      rintro e w' ⟨rfl, hB⟩
      exact hK _ _ (.inr rfl) ⟨(hF.j.1).below hB, fun _ h => by cases h⟩
    · have ho' := ho
      obtain rfl := Option.some.inj ho
      have f11 : ac.tmps.getD 11 undef = .agg (B64 (bdig z)) := (factt hF hd 4 rfl rfl (by kernel_rfl)).1.trans (factt hF hd 4 rfl rfl (by kernel_rfl)).2
      refine step_do ho' (wanted_free rfl) ?_
      unfold Oper.wp
      go_simp
      refine (F.swideA hzl.out hzk.out _ (F.keep _ _ hT hF.j.1.2)).mono ?_
      rintro e w' ⟨rfl, hB⟩
      exact hK _ _ (.inr rfl) ⟨(hF.j.1).below hB, fun h1 h2 => rows_bel (hF.j.2 h1 h2) hB⟩
    · have ho' := ho
      obtain rfl := Option.some.inj ho
      have f6 : ac.tmps.getD 6 undef = .pointer (some ⟨bR, 0, none⟩) := slott hF 6 hLi 6 (by kernel_rfl)
      have f12 : ac.tmps.getD 12 undef = .agg (B32 (bdig k)) := (factt hF hd 5 rfl rfl (by kernel_rfl)).1.trans (factt hF hd 5 rfl rfl (by kernel_rfl)).2
      refine step_do ho' (wanted_free rfl) ?_
      have hq5 := dep hd 5 (by kernel_rfl)
      have hq4 := dept hF 5 rfl hq5 4 (by kernel_rfl)
      have hjo := hF.j.1
      rw [hLi] at hjo
      have hjo : Own wc bR (B32 fun _ => 0) 22 := hjo.at bR (B32 fun _ => 0) 22 (.head _)
      refine wp_store_own 22 (.tmp 6) (.tmp 12) rfl bR (B32 (bdig k)) f6 f12 hjo (B32_sizes _ _) (B32_info _) (B32_one _) rfl ?_
      have hj := hF.j.1
      rw [hLi] at hj
      have hj : Kp [(bR, B32 fun _ => 0, 22), (bB, B32 (bdig q), 22), (bA, B32 (bdig p), 22)] w wc := hj
      have hj : Kp [(bR, B32 fun _ => 0, 22), (bB, B32 (bdig q), 22), (bA, B32 (bdig p), 22)] w wc := (((hj.none.cons (hj.at bA (B32 (bdig p)) 22 (.tail _ (.tail _ (.head _))))).cons (hj.at bB (B32 (bdig q)) 22 (.tail _ (.head _)))).cons (hj.at bR (B32 fun _ => 0) 22 (.head _)))
      have hj := Kp.set (A' := B32 (bdig k)) hj (by simp only [List.forall_mem_cons, List.not_mem_nil, false_implies, implies_true, and_true]; exact ⟨ne_bB_bR.out, ne_bA_bR.out⟩) le_bR.out (B32_sizes _ _)
      exact hK undef _ (.inl rfl) ⟨(((hj.none.cons (hj.at bA (B32 (bdig p)) 22 (.tail _ (.tail _ (.head _))))).cons (hj.at bB (B32 (bdig q)) 22 (.tail _ (.head _)))).cons (hj.at bR (B32 (bdig k)) 22 (.head _))), fun _ h => by have h : L 4 = false := h; rw [hq4] at h; cases h⟩
    · cases ho
  intro L vs V1 hL hKq hf
  have hKq := hKq.1
  rw [hL 6 (by decide)] at hKq
  have hK : Kp [(bR, B32 (bdig k), 22), (bB, B32 (bdig q), 22), (bA, B32 (bdig p), 22)] w V1 := hKq
  have e0 : vs 0 = _ := hf 0 _ _ rfl rfl
  have e1 : vs 1 = _ := hf 1 _ _ rfl rfl
  have e2 : vs 2 = _ := hf 2 _ _ rfl rfl
  have e4 : vs 4 = _ := hf 4 _ _ rfl rfl
  have e5 : vs 5 = _ := hf 5 _ _ rfl rfl
  obtain ⟨aq3, eb3⟩ := hf 3 _ _ rfl rfl
  simp only [putAll, Nat.zero_add, Nat.reduceAdd, e0, e1, e2, e4, e5, eb3, Act.put, List.setIfInBounds_toArray, List.set_cons_succ, List.set_cons_zero]
  clear hKq hL hf e0 e1 e2 e4 e5 eb3
  go_wp2_with fail
  exact bodyPost_ret (results_own Tryz.results31 _ _ bR (B32 (bdig k)) _ (by rfl) (hK.at bR (B32 (bdig k)) 22 (.head _)) Tryz.underlying22 rfl (B32_info _)) rfl ⟨rfl, hK.2⟩
end Go.Proofs.YtgibllaifnnfkaaGreatDoor
namespace Go.Proofs.YtgibllaifnnfkaaGreatDoor
open Go Go.RowKit
set_option maxRecDepth 100000 in
set_option maxHeartbeats 400000 in
theorem sign_at {T : World → Prop} (F : Low T) {n lo hi c y r R k S : Nat} {ta : Option Addr} {tc : Nat} {m : List Int} (Hd : Hid (dn (by32 n) = two lo hi)) (llo : Hid (lo < R256)) (Hc : Hid (clamp lo = c)) (Hy : Hid (enc (Pt.times c BP) = y)) (Hr : Hid (dn (by32 hi ++ m) % LL = r)) (HR : Hid (enc (Pt.times r BP) = R)) (Hk : Hid (dn (by32 R ++ (by32 y ++ m)) % LL = k)) (HS : Hid ((k * c + r) % LL = S)) (hl : m.length ≤ 1000) (w : World) (hT : T w) (hm : Txt w ta tc m) : Calls Tryz.prog 16 #[.agg (B32 (bdig n)), .slice ta m.length tc] w fun x w' => x = .returned (.agg (B64 (bdig (two R S)))) ∧ Below w.heap.size w w' := by
  have hz := (zero_of_info zeroB32).1
  have hz64 := (zero_of_info zeroB64).1
  have lc : Hid (c < R256) := by show _ < _; rw [← Hc.out]; exact clamp_lt _
  have lr : Hid (r < R256) := by show _ < _; rw [← Hr.out]; exact lt_of_modL
  have lk : Hid (k < R256) := by show _ < _; rw [← Hk.out]; exact lt_of_modL
  have lR : Hid (R < R256) := by show _ < _; rw [← HR.out, R256_HH]; exact enc_lt _
  obtain ⟨z, Hz⟩ : ∃ z, Hid (dn (by32 hi ++ m) = z) := ⟨_, rfl⟩
  have hzl : Hid (z < R512) := by show _ < _; rw [← Hz.out]; exact dn_lt _
  have hzr : Hid (z % LL = r) := by show _ = _; rw [← Hz.out]; exact Hr.out
  have hfl : Hid ([by32 hi, m].flatten = by32 hi ++ m) := by show _ = _; simp
  have hln : Hid ((by32 hi ++ m).length ≤ 16000000) := by show _ ≤ _; rw [List.length_append, by32_length]; omega
  go_enter Tryz.func16, Tryz.ntmps16
  go_upto_region 1 with fail
  have hK := ((Kp.nil w).alloc (B32 (bdig n)) 22).alloc (B64 fun _ => 0) 24
  rw [World.size_alloc] at hK
  generalize (w.alloc (.cells (B32 (bdig n)) 22)).alloc (.cells (B64 fun _ => 0) 24) = W at *
  obtain ⟨bA, HbA⟩ : ∃ b, Hid (w.heap.size = b) := ⟨_, rfl⟩
  obtain ⟨bR, HbR⟩ : ∃ b, Hid (bA + 1 = b) := ⟨_, rfl⟩
  have le_bA : Hid (w.heap.size ≤ bA) := by show _ ≤ _; have := HbA.out; omega
  have le_bR : Hid (w.heap.size ≤ bR) := by show _ ≤ _; have := HbA.out; have := HbR.out; omega
  have ne_bA_bR : Hid (bA ≠ bR) := by show _ ≠ _; have := HbR.out; omega
  rw [HbA.out, HbR.out] at hK ⊢
  go_wp2_with (refine wpList_load_own (by rfl) 22 (.tmp 2) (by rfl) bA (by rfl) (B32 (bdig n)) _ (hK.at bA (B32 (bdig n)) 22 (.tail _ (.head _))) Tryz.underlying22 (by rfl) (B32_info _) ?_)
  refine (halves_at F Hd llo Hc _ (F.keep _ _ hT hK.2)).mono ?_
  rintro e V1 ⟨rfl, bw⟩
  have hK := hK.below bw
  clear bw
  go_upto_region 2 with ((refine wpList_news2 hK 22 22 5 6 14 15 (by rfl) (by rfl) (by rfl) (by rfl) (by rfl) (by rfl) (by rfl) (by rfl) (by rfl) (by rfl) (by rfl) (by rfl) hz hz (of_decide_eq_true (by rfl)) (of_decide_eq_true (by rfl)) (by decide) (by decide) (by decide) (by decide) (by decide) (by rfl) (by rfl) (B32_sizes _ _) (B32_sizes _ _) (B32_info _) (B32_info _) (B32_one _) (B32_one _) ?_; intro b2 b3 V4 le_b2 le_b3 ne_b2_b3 ap1 ap2 hK))
  have le_b2 := show Hid _ from le_b2
  have le_b3 := show Hid _ from le_b3
  have ne_b2_b3 := show Hid _ from ne_b2_b3
  have ne_bR_b2 : Hid (bR ≠ b2) := ap1 (bR, B64 fun _ => 0, 24) (.head _)
  have ne_bR_b3 : Hid (bR ≠ b3) := ap2 (bR, B64 fun _ => 0, 24) (.head _)
  have ne_bA_b2 : Hid (bA ≠ b2) := ap1 (bA, B32 (bdig n), 22) (.tail _ (.head _))
  have ne_bA_b3 : Hid (bA ≠ b3) := ap2 (bA, B32 (bdig n), 22) (.tail _ (.head _))
  clear ap1 ap2
  go_wp2_with fail
  have hq := rows2 (bytes_own (hK.at b3 (B32 (bdig hi)) 22 (.head _))) (fun h => by cases h) ((hm.below hK.2).1) hm.2
  have hK := hK.below (alloc_below V4 (.cells #[.slice (some ⟨b3, 0, none⟩) 32 32, .slice ta m.length tc] 23))
  refine (F.wsumA hfl.out Hz.out hln.out _ (F.keep _ _ hT hK.2) hq).mono ?_
  rintro e V5 ⟨rfl, bw⟩
  have hK := hK.below bw
  clear bw hq
  go_wp2_with fail
  refine (F.swideA hzl.out hzr.out _ (F.keep _ _ hT hK.2)).mono ?_
  rintro e V6 ⟨rfl, bw⟩
  have hK := hK.below bw
  clear bw
  go_upto_region 3 with (refine wpList_store_new (by rfl) 22 (.tmp 7) (.tmp 20) (by rfl) _ (B32 (bdig r)) (by rfl) (by rfl) (B32_info _) (B32_sizes _ _) (B32_one _) (by rfl) ?_)
  have lt_b3 := (hK.at b3 (B32 (bdig hi)) 22 (.head _)).lt
  have lt_b2 := (hK.at b2 (B32 (bdig c)) 22 (.tail _ (.head _))).lt
  have lt_bR := (hK.at bR (B64 fun _ => 0) 24 (.tail _ (.tail _ (.head _)))).lt
  have lt_bA := (hK.at bA (B32 (bdig n)) 22 (.tail _ (.tail _ (.tail _ (.head _))))).lt
  have le_b7 := show Hid _ from hK.2.size
  have hK := hK.alloc (B32 (bdig r)) 22
  generalize V6.alloc (.cells (B32 (bdig r)) 22) = V8 at *
  obtain ⟨b7, Hb7⟩ : ∃ b, Hid (V6.heap.size = b) := ⟨_, rfl⟩
  have ne_b3_b7 : Hid (b3 ≠ b7) := by show _ ≠ _; rw [← Hb7.out]; exact Nat.ne_of_lt lt_b3
  have ne_b2_b7 : Hid (b2 ≠ b7) := by show _ ≠ _; rw [← Hb7.out]; exact Nat.ne_of_lt lt_b2
  have ne_bR_b7 : Hid (bR ≠ b7) := by show _ ≠ _; rw [← Hb7.out]; exact Nat.ne_of_lt lt_bR
  have ne_bA_b7 : Hid (bA ≠ b7) := by show _ ≠ _; rw [← Hb7.out]; exact Nat.ne_of_lt lt_bA
  have le_b7 : Hid (w.heap.size ≤ b7) := by show _ ≤ _; rw [← Hb7.out]; exact le_b7.out
  rw [Hb7.out] at hK ⊢
  clear lt_b3 lt_b2 lt_bR lt_bA
  go_wp2_with (refine wpList_load_own (by rfl) 22 (.tmp 7) (by rfl) b7 (by rfl) (B32 (bdig r)) _ (hK.at b7 (B32 (bdig r)) 22 (.head _)) Tryz.underlying22 (by rfl) (B32_info _) ?_)
  refine (F.baseA lr.out HR.out _ (F.keep _ _ hT hK.2)).mono ?_
  rintro e V9 ⟨rfl, bw⟩
  have hK := hK.below bw
  clear bw
  go_upto_region 4 with (refine wpList_store_new (by rfl) 22 (.tmp 8) (.tmp 22) (by rfl) _ (B32 (bdig R)) (by rfl) (by rfl) (B32_info _) (B32_sizes _ _) (B32_one _) (by rfl) ?_)
  have lt_b7 := (hK.at b7 (B32 (bdig r)) 22 (.head _)).lt
  have lt_b3 := (hK.at b3 (B32 (bdig hi)) 22 (.tail _ (.head _))).lt
  have lt_b2 := (hK.at b2 (B32 (bdig c)) 22 (.tail _ (.tail _ (.head _)))).lt
  have lt_bR := (hK.at bR (B64 fun _ => 0) 24 (.tail _ (.tail _ (.tail _ (.head _))))).lt
  have lt_bA := (hK.at bA (B32 (bdig n)) 22 (.tail _ (.tail _ (.tail _ (.tail _ (.head _)))))).lt
  have le_b10 := show Hid _ from hK.2.size
  have hK := hK.alloc (B32 (bdig R)) 22
  generalize V9.alloc (.cells (B32 (bdig R)) 22) = V11 at *
  obtain ⟨b10, Hb10⟩ : ∃ b, Hid (V9.heap.size = b) := ⟨_, rfl⟩
  have ne_b7_b10 : Hid (b7 ≠ b10) := by show _ ≠ _; rw [← Hb10.out]; exact Nat.ne_of_lt lt_b7
  have ne_b3_b10 : Hid (b3 ≠ b10) := by show _ ≠ _; rw [← Hb10.out]; exact Nat.ne_of_lt lt_b3
  have ne_b2_b10 : Hid (b2 ≠ b10) := by show _ ≠ _; rw [← Hb10.out]; exact Nat.ne_of_lt lt_b2
  have ne_bR_b10 : Hid (bR ≠ b10) := by show _ ≠ _; rw [← Hb10.out]; exact Nat.ne_of_lt lt_bR
  have ne_bA_b10 : Hid (bA ≠ b10) := by show _ ≠ _; rw [← Hb10.out]; exact Nat.ne_of_lt lt_bA
  have le_b10 : Hid (w.heap.size ≤ b10) := by show _ ≤ _; rw [← Hb10.out]; exact le_b10.out
  rw [Hb10.out] at hK ⊢
  clear lt_b7 lt_b3 lt_b2 lt_bR lt_bA
  refine wp_region_lv 38 (fun _ => [(b10, B32 (bdig R), 22), (b7, B32 (bdig r), 22), (b3, B32 (bdig hi), 22), (b2, B32 (bdig c), 22), (bR, B64 fun _ => 0, 24), (bA, B32 (bdig n), 22)]) [.v (.agg (B32 (bdig R))), .v (.agg (B32 (bdig c))), .v (.agg (B32 (bdig y))), .v (.slice ta m.length tc), .v (.agg (B32 (bdig k))), .v (.agg (B32 (bdig c))), .v (.agg (B32 (bdig r))), .v (.agg (B32 (bdig S))), .mk (B32 fun _ => 0) (B32 (bdig S)) 22 9, .o] hK (by kernel_rfl) (by kernel_rfl) (by kernel_rfl) (by rfl) ?_ ?_
  · exact .c (.ld b10 (fun _ => .head _) Tryz.underlying22 rfl (B32_info _)) <| .c (.ld b2 (fun _ => .tail _ (.tail _ (.tail _ (.head _)))) Tryz.underlying22 rfl (B32_info _)) <| .c (.ca fun _ _ hkx => F.baseA lc.out Hy.out _ (F.keep _ _ hT hkx.2)) <| .c (.p1 1 (.slice ta m.length tc)) <| .c (.ca fun _ _ hkx => bound_at F Hk hl _ (F.keep _ _ hT hkx.2) (hm.below hkx.2)) <| .c (.ld b2 (fun _ => .tail _ (.tail _ (.tail _ (.head _)))) Tryz.underlying22 rfl (B32_info _)) <| .c (.ld b7 (fun _ => .tail _ (.head _)) Tryz.underlying22 rfl (B32_info _)) <| .c (.ca fun _ _ hkx => F.smuladdA lk.out lc.out lr.out HS.out _ (F.keep _ _ hT hkx.2)) <| .c (.al hz) <| .c (.st 8 (B32_info _) (B32_one _)) .nil
  intro vs V12 hJ hf
  obtain ⟨g13, hgg13⟩ := hf 8 _ _ rfl rfl
  obtain ⟨le0, apg13, owng13⟩ := hJ.got 8 hgg13
  have le_g13 := show Hid _ from le0
  clear le0
  have ne_b10_g13 : Hid (b10 ≠ g13) := apg13 (b10, B32 (bdig R), 22) (.head _)
  have ne_b7_g13 : Hid (b7 ≠ g13) := apg13 (b7, B32 (bdig r), 22) (.tail _ (.head _))
  have ne_b3_g13 : Hid (b3 ≠ g13) := apg13 (b3, B32 (bdig hi), 22) (.tail _ (.tail _ (.head _)))
  have ne_b2_g13 : Hid (b2 ≠ g13) := apg13 (b2, B32 (bdig c), 22) (.tail _ (.tail _ (.tail _ (.head _))))
  have ne_bR_g13 : Hid (bR ≠ g13) := apg13 (bR, B64 fun _ => 0, 24) (.tail _ (.tail _ (.tail _ (.tail _ (.head _)))))
  have ne_bA_g13 : Hid (bA ≠ g13) := apg13 (bA, B32 (bdig n), 22) (.tail _ (.tail _ (.tail _ (.tail _ (.tail _ (.head _))))))
  have hK : Kp [(g13, B32 (bdig S), 22), (b10, B32 (bdig R), 22), (b7, B32 (bdig r), 22), (b3, B32 (bdig hi), 22), (b2, B32 (bdig c), 22), (bR, B64 fun _ => 0, 24), (bA, B32 (bdig n), 22)] w V12 := (hJ.1.cons owng13)
  simp only [putL, Lv.val, Nat.zero_add, Nat.reduceAdd, hgg13, Act.put, List.setIfInBounds_toArray, List.set_cons_succ, List.set_cons_zero]
  clear hJ hf hgg13 apg13 owng13
  go_upto_region 6 with fail
  have lt_g13 := (hK.at g13 (B32 (bdig S)) 22 (.head _)).lt
  have lt_b10 := (hK.at b10 (B32 (bdig R)) 22 (.tail _ (.head _))).lt
  have lt_b7 := (hK.at b7 (B32 (bdig r)) 22 (.tail _ (.tail _ (.head _)))).lt
  have lt_b3 := (hK.at b3 (B32 (bdig hi)) 22 (.tail _ (.tail _ (.tail _ (.head _))))).lt
  have lt_b2 := (hK.at b2 (B32 (bdig c)) 22 (.tail _ (.tail _ (.tail _ (.tail _ (.head _)))))).lt
  have lt_bR := (hK.at bR (B64 fun _ => 0) 24 (.tail _ (.tail _ (.tail _ (.tail _ (.tail _ (.head _))))))).lt
  have lt_bA := (hK.at bA (B32 (bdig n)) 22 (.tail _ (.tail _ (.tail _ (.tail _ (.tail _ (.tail _ (.head _)))))))).lt
  have le_b14 := show Hid _ from hK.2.size
  have hK := hK.alloc (B64 fun _ => 0) 24
  generalize V12.alloc (.cells (B64 fun _ => 0) 24) = V15 at *
  obtain ⟨b14, Hb14⟩ : ∃ b, Hid (V12.heap.size = b) := ⟨_, rfl⟩
  have ne_g13_b14 : Hid (g13 ≠ b14) := by show _ ≠ _; rw [← Hb14.out]; exact Nat.ne_of_lt lt_g13
  have ne_b10_b14 : Hid (b10 ≠ b14) := by show _ ≠ _; rw [← Hb14.out]; exact Nat.ne_of_lt lt_b10
  have ne_b7_b14 : Hid (b7 ≠ b14) := by show _ ≠ _; rw [← Hb14.out]; exact Nat.ne_of_lt lt_b7
  have ne_b3_b14 : Hid (b3 ≠ b14) := by show _ ≠ _; rw [← Hb14.out]; exact Nat.ne_of_lt lt_b3
  have ne_b2_b14 : Hid (b2 ≠ b14) := by show _ ≠ _; rw [← Hb14.out]; exact Nat.ne_of_lt lt_b2
  have ne_bR_b14 : Hid (bR ≠ b14) := by show _ ≠ _; rw [← Hb14.out]; exact Nat.ne_of_lt lt_bR
  have ne_bA_b14 : Hid (bA ≠ b14) := by show _ ≠ _; rw [← Hb14.out]; exact Nat.ne_of_lt lt_bA
  have le_b14 : Hid (w.heap.size ≤ b14) := by show _ ≤ _; rw [← Hb14.out]; exact le_b14.out
  rw [Hb14.out] at hK ⊢
  clear lt_g13 lt_b10 lt_b7 lt_b3 lt_b2 lt_bR lt_bA
  refine wp_region_lv 38 (fun L => [(b14, if L 2 = true then B64 (bdig (two R 0)) else B64 fun _ => 0, 24), (g13, B32 (bdig S), 22), (b10, B32 (bdig R), 22), (b7, B32 (bdig r), 22), (b3, B32 (bdig hi), 22), (b2, B32 (bdig c), 22), (bR, B64 fun _ => 0, 24), (bA, B32 (bdig n), 22)]) [.v (.slice (some ⟨b14, 0, none⟩) 32 64), .v (.slice (some ⟨b10, 0, none⟩) 32 32), .v (.int .i64 (32))] hK (by kernel_rfl) (by kernel_rfl) (by kernel_rfl) (by rfl) ?_ ?_
  · exact .c (.p1 10 (.pointer (some ⟨b14, 0, none⟩))) <| .c (.p1 8 (.pointer (some ⟨b10, 0, none⟩))) <| .c (.xr [(31, .slice (some ⟨b14, 0, none⟩) 32 64), (32, .slice (some ⟨b10, 0, none⟩) 32 32)] b14 (.hr (fun _ => rfl) (fun _ => rfl) (fun _ => fc ne_g13_b14 <| fc ne_b10_b14 <| fc ne_b7_b14 <| fc ne_b3_b14 <| fc ne_b2_b14 <| fc ne_bR_b14 <| fc ne_bA_b14 <| fn)) le_b14.out fun _ ac wc _ _ hfx _ hkx hjo hx => by have f31 := hfx _ (.head _); have f32 := hfx _ (.tail _ (.head _)); have hrg : wc.rangeAt b10 0 (B32 (bdig R)).toList := (hkx.at b10 (B32 (bdig R)) 22 (.tail _ (.tail _ (.head _)))).range; refine wp_copy_at (.tmp 31) (.tmp 32) 23 23 rfl 5 Tryz.underlying23 infoU8s b14 0 32 64 b10 0 32 32 f31 f32 hjo _ hrg (by rw [B32_len0]; rfl) (by rw [B32_len0, B64_size]; decide) (B32_ones _) ?_; rw [join_lo lR.out, B32_len0]; exact hx _ rfl) .nil
  intro _ V16 hJ _
  have hK : Kp [(b14, B64 (bdig (two R 0)), 24), (g13, B32 (bdig S), 22), (b10, B32 (bdig R), 22), (b7, B32 (bdig r), 22), (b3, B32 (bdig hi), 22), (b2, B32 (bdig c), 22), (bR, B64 fun _ => 0, 24), (bA, B32 (bdig n), 22)] w V16 := hJ.1
  clear hJ
  simp only [putL, Lv.val, Act.put, List.setIfInBounds_toArray, List.set_cons_succ, List.set_cons_zero]
  go_upto_region 7 with fail
  refine wp_region_lv 38 (fun L => [(b14, if L 2 = true then B64 (bdig (two R S)) else B64 (bdig (two R 0)), 24), (g13, B32 (bdig S), 22), (b10, B32 (bdig R), 22), (b7, B32 (bdig r), 22), (b3, B32 (bdig hi), 22), (b2, B32 (bdig c), 22), (bR, B64 fun _ => 0, 24), (bA, B32 (bdig n), 22)]) [.v (.slice (some ⟨b14, 32, none⟩) 32 32), .v (.slice (some ⟨g13, 0, none⟩) 32 32), .v (.int .i64 (32))] hK (by kernel_rfl) (by kernel_rfl) (by kernel_rfl) (by rfl) ?_ ?_
  · exact .c (.p1 10 (.pointer (some ⟨b14, 0, none⟩))) <| .c (.p1 9 (.pointer (some ⟨g13, 0, none⟩))) <| .c (.xr [(34, .slice (some ⟨b14, 32, none⟩) 32 32), (35, .slice (some ⟨g13, 0, none⟩) 32 32)] b14 (.hr (fun _ => rfl) (fun _ => rfl) (fun _ => fc ne_g13_b14 <| fc ne_b10_b14 <| fc ne_b7_b14 <| fc ne_b3_b14 <| fc ne_b2_b14 <| fc ne_bR_b14 <| fc ne_bA_b14 <| fn)) le_b14.out fun _ ac wc _ _ hfx _ hkx hjo hx => by have f34 := hfx _ (.head _); have f35 := hfx _ (.tail _ (.head _)); have hrg : wc.rangeAt g13 0 (B32 (bdig S)).toList := (hkx.at g13 (B32 (bdig S)) 22 (.tail _ (.head _))).range; refine wp_copy_at (.tmp 34) (.tmp 35) 23 23 rfl 5 Tryz.underlying23 infoU8s b14 32 32 32 g13 0 32 32 f34 f35 hjo _ hrg (by rw [B32_len0]; rfl) (by rw [B32_len0, B64_size]; decide) (B32_ones _) ?_; rw [join_hi lR.out S, B32_len0]; exact hx _ rfl) .nil
  intro _ V17 hJ _
  have hK : Kp [(b14, B64 (bdig (two R S)), 24), (g13, B32 (bdig S), 22), (b10, B32 (bdig R), 22), (b7, B32 (bdig r), 22), (b3, B32 (bdig hi), 22), (b2, B32 (bdig c), 22), (bR, B64 fun _ => 0, 24), (bA, B32 (bdig n), 22)] w V17 := hJ.1
  clear hJ
  simp only [putL, Lv.val, Act.put, List.setIfInBounds_toArray, List.set_cons_succ, List.set_cons_zero]
  go_wp2_with (first
    | refine wpList_load_own (by rfl) 24 (.tmp 10) (by rfl) b14 (by rfl) (B64 (bdig (two R S))) _ (hK.at b14 (B64 (bdig (two R S))) 24 (.head _)) Tryz.underlying24 (by rfl) (B64_info _) ?_
    | refine wpList_store_own (op := { dst := none, op := _, type := _, pos := _, after := _, guard := _ }) rfl 24 (.tmp 4) (.tmp 37) rfl bR 0 (B64 (bdig (two R S))) (by rfl) (by rfl) (hK.at bR (B64 fun _ => 0) 24 (.tail _ (.tail _ (.tail _ (.tail _ (.tail _ (.tail _ (.head _)))))))) (B64_le _ _) (B64_info _) (B64_one _) (by rfl) ?_)
  exact bodyPost_ret (results_own Tryz.results16 _ _ bR (B64 (bdig (two R S))) _ (by rfl) (own_setCells (hK.at bR (B64 fun _ => 0) 24 (.tail _ (.tail _ (.tail _ (.tail _ (.tail _ (.tail _ (.head _)))))))) (B64_sizes _ _)) Tryz.underlying24 rfl (B64_info _)) rfl ⟨rfl, Below.setCells _ _ _ _ le_bR.out hK.2⟩
end Go.Proofs.YtgibllaifnnfkaaGreatDoor
