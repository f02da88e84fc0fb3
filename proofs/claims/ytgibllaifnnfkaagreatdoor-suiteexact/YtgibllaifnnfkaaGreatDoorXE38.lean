/- Of the texts UP3, ST1, UX1, UE1: what the card of this claim reaches. -/
import Derived.Test.YtgibllaifnnfkaaGreatDoorXE29
import Derived.Test.YtgibllaifnnfkaaGreatDoorXE37
import Derived.Test.YtgibllaifnnfkaaGreatDoorXE27
import Derived.Test.YtgibllaifnnfkaaGreatDoorXE23
namespace Go.Proofs.YtgibllaifnnfkaaGreatDoor
open Go Go.RowKit
set_option maxRecDepth 100000 in
set_option maxHeartbeats 1000000 in
theorem ppub_real (n : Nat) (w : World) : Calls Tryz.prog 12 #[.int .i64 1, .agg (B32 (bdig n))] w fun x w' => x = .returned (.agg (B32 (bdig (pubOf n)))) ∧ Below w.heap.size w w' := by
  obtain ⟨y, Hy⟩ : ∃ y, Hid (pubOf n = y) := ⟨_, rfl⟩
  have hc : Hid (∀ w, Calls Tryz.prog 21 #[.agg (B32 (bdig n))] w fun x w' => x = .returned (.agg (B32 (bdig y))) ∧ Below w.heap.size w w') := fun w => by rw [← Hy.out]; exact ppublic_is n w
  rw [Hy.out]
  have hz := (zero_of_info zeroB32).1
  go_enter Tryz.func12, Tryz.ntmps12
  go_upto_region 2 with fail
  have hK := ((Kp.nil w).alloc (B32 (bdig n)) 22).alloc (B32 fun _ => 0) 22
  rw [World.size_alloc] at hK
  generalize (w.alloc (.cells (B32 (bdig n)) 22)).alloc (.cells (B32 fun _ => 0) 22) = W at *
  obtain ⟨bA, HA⟩ : ∃ b, Hid (w.heap.size = b) := ⟨_, rfl⟩
  obtain ⟨bR, HR⟩ : ∃ b, Hid (bA + 1 = b) := ⟨_, rfl⟩
  have leR : w.heap.size ≤ bR := by have := HA.out; have := HR.out; omega
  have ne : Hid (bA ≠ bR) := by show _ ≠ _; have := HR.out; omega
  rw [HA.out, HR.out] at hK ⊢
  refine wp_region_ls 14 (fun L => [(bR, if L 2 = true then B32 (bdig y) else B32 fun _ => 0, 22), (bA, B32 (bdig n), 22)]) [.v (.agg (B32 (bdig n))), .v (.agg (B32 (bdig y))), .o] hK (by kernel_rfl) (by kernel_rfl) (by rfl) (.c (.ld bA (fun _ => .tail _ (.head _)) Tryz.underlying22 rfl (B32_info _)) <| .c (.ca fun _ w _ => hc.out w) <| .c (.sk bR (.hr (fun _ => rfl) (fun _ => rfl) fun _ => fc ne fn) leR (B32_info _) (B32_one _)) .nil) ?_
  intro _ V hJ _
  have hK : Kp [(bR, B32 (bdig y), 22), (bA, B32 (bdig n), 22)] w V := hJ.1
  simp only [putL, Lv.val, Act.put, List.setIfInBounds_toArray, List.set_cons_succ, List.set_cons_zero]
  go_wp2_with fail
  exact bodyPost_ret (results_own Tryz.results12 _ _ bR (B32 (bdig y)) _ (by rfl) (hK.at bR (B32 (bdig y)) 22 (.head _)) Tryz.underlying22 rfl (B32_info _)) rfl ⟨rfl, hK.2⟩
theorem ppub_k {kind : Int} (hk : kind = 1 ∨ kind = 2) (n : Nat) (w : World) : Calls Tryz.prog 12 #[.int .i64 kind, .agg (B32 (bdig n))] w fun x w' => x = .returned (.agg (B32 (bdig (pubK kind n)))) ∧ Below w.heap.size w w' := by
  rcases hk with rfl | rfl
  · rw [show pubK 1 n = pubOf n from if_pos rfl]
    exact ppub_real n w
  · rw [show pubK 2 n = opub n from if_neg (by decide)]
    exact ppub_open n w
set_option maxRecDepth 100000 in
set_option maxHeartbeats 1000000 in
theorem psgn_real (n : Nat) {ta : Option Addr} {tc : Nat} {m : List Int} (hl : m.length ≤ 1000) (w : World) (hm : Txt w ta tc m) : Calls Tryz.prog 13 #[.int .i64 1, .agg (B32 (bdig n)), .slice ta m.length tc] w fun x w' => x = .returned (.agg (B64 (bdig (sigOf n m)))) ∧ Below w.heap.size w w' := by
  obtain ⟨z, Hz⟩ : ∃ z, Hid (sigOf n m = z) := ⟨_, rfl⟩
  have hc : Hid (∀ w, Txt w ta tc m → Calls Tryz.prog 24 #[.agg (B32 (bdig n)), .slice ta m.length tc] w fun x w' => x = .returned (.agg (B64 (bdig z))) ∧ Below w.heap.size w w') := fun w hm => by rw [← Hz.out]; exact psign_is n hl w hm
  rw [Hz.out]
  have hz := (zero_of_info zeroB64).1
  go_enter Tryz.func13, Tryz.ntmps13
  go_upto_region 2 with fail
  have hK := ((Kp.nil w).alloc (B32 (bdig n)) 22).alloc (B64 fun _ => 0) 24
  rw [World.size_alloc] at hK
  generalize (w.alloc (.cells (B32 (bdig n)) 22)).alloc (.cells (B64 fun _ => 0) 24) = W at *
  obtain ⟨bA, HA⟩ : ∃ b, Hid (w.heap.size = b) := ⟨_, rfl⟩
  obtain ⟨bR, HR⟩ : ∃ b, Hid (bA + 1 = b) := ⟨_, rfl⟩
  have leR : w.heap.size ≤ bR := by have := HA.out; have := HR.out; omega
  have ne : Hid (bA ≠ bR) := by show _ ≠ _; have := HR.out; omega
  rw [HA.out, HR.out] at hK ⊢
  refine wp_region_ls 17 (fun L => [(bR, if L 3 = true then B64 (bdig z) else B64 fun _ => 0, 24), (bA, B32 (bdig n), 22)]) [.v (.agg (B32 (bdig n))), .v (.slice ta m.length tc), .v (.agg (B64 (bdig z))), .o] hK (by kernel_rfl) (by kernel_rfl) (by rfl) (.c (.ld bA (fun _ => .tail _ (.head _)) Tryz.underlying22 rfl (B32_info _)) <| .c (.p1 2 (.slice ta m.length tc)) <| .c (.ca fun _ w hk => hc.out w (hm.below hk.2)) <| .c (.sk bR (.hr (fun _ => rfl) (fun _ => rfl) fun _ => fc ne fn) leR (B64_info _) (B64_one _)) .nil) ?_
  intro _ V hJ _
  have hK : Kp [(bR, B64 (bdig z), 24), (bA, B32 (bdig n), 22)] w V := hJ.1
  simp only [putL, Lv.val, Act.put, List.setIfInBounds_toArray, List.set_cons_succ, List.set_cons_zero]
  go_wp2_with fail
  exact bodyPost_ret (results_own Tryz.results13 _ _ bR (B64 (bdig z)) _ (by rfl) (hK.at bR (B64 (bdig z)) 24 (.head _)) Tryz.underlying24 rfl (B64_info _)) rfl ⟨rfl, hK.2⟩
set_option maxRecDepth 100000 in
set_option maxHeartbeats 1000000 in
theorem psgn_open (n : Nat) {ta : Option Addr} {tc : Nat} {m : List Int} (hl : m.length ≤ 1000) (w : World) (hm : Txt w ta tc m) : Calls Tryz.prog 13 #[.int .i64 2, .agg (B32 (bdig n)), .slice ta m.length tc] w fun x w' => x = .returned (.agg (B64 (bdig (two (oR (opub n) m) (oS (opub n) m))))) ∧ Below w.heap.size w w' := by
  obtain ⟨y, Hy⟩ : ∃ y, Hid (opub n = y) := ⟨_, rfl⟩
  have hc : Hid (∀ w, Calls Tryz.prog 12 #[.int .i64 2, .agg (B32 (bdig n))] w fun x w' => x = .returned (.agg (B32 (bdig y))) ∧ Below w.heap.size w w') := fun w => by rw [← Hy.out]; exact ppub_open n w
  rw [Hy.out]
  obtain ⟨a, Ha⟩ : ∃ a, Hid (oR y m = a) := ⟨_, rfl⟩
  obtain ⟨b, Hb⟩ : ∃ b, Hid (oS y m = b) := ⟨_, rfl⟩
  rw [Ha.out, Hb.out]
  have hz := (zero_of_info zeroB64).1
  go_enter Tryz.func13, Tryz.ntmps13
  go_upto_region 3 with fail
  have hK := ((Kp.nil w).alloc (B32 (bdig n)) 22).alloc (B64 fun _ => 0) 24
  rw [World.size_alloc] at hK
  generalize (w.alloc (.cells (B32 (bdig n)) 22)).alloc (.cells (B64 fun _ => 0) 24) = W at *
  obtain ⟨bA, HA⟩ : ∃ b, Hid (w.heap.size = b) := ⟨_, rfl⟩
  obtain ⟨bR, HR⟩ : ∃ b, Hid (bA + 1 = b) := ⟨_, rfl⟩
  have leR : w.heap.size ≤ bR := by have := HA.out; have := HR.out; omega
  have ne : Hid (bA ≠ bR) := by show _ ≠ _; have := HR.out; omega
  rw [HA.out, HR.out] at hK ⊢
  refine wp_region_ls 17 (fun L => [(bR, if L 5 = true then B64 (bdig (two a b)) else B64 fun _ => 0, 24), (bA, B32 (bdig n), 22)]) [.v (.int .i64 2), .v (.agg (B32 (bdig n))), .v (.agg (B32 (bdig y))), .v (.slice ta m.length tc), .v (.agg (B64 (bdig (two a b)))), .o] hK (by kernel_rfl) (by kernel_rfl) (by rfl) (.c (.p1 0 (.int .i64 2)) <| .c (.ld bA (fun _ => .tail _ (.head _)) Tryz.underlying22 rfl (B32_info _)) <| .c (.ca fun _ w _ => hc.out w) <| .c (.p1 2 (.slice ta m.length tc)) <| .c (.ca fun _ w hk => popen_at Ha Hb hl w (hm.below hk.2)) <| .c (.sk bR (.hr (fun _ => rfl) (fun _ => rfl) fun _ => fc ne fn) leR (B64_info _) (B64_one _)) .nil) ?_
  intro _ V hJ _
  have hK : Kp [(bR, B64 (bdig (two a b)), 24), (bA, B32 (bdig n), 22)] w V := hJ.1
  simp only [putL, Lv.val, Act.put, List.setIfInBounds_toArray, List.set_cons_succ, List.set_cons_zero]
  go_wp2_with fail
  exact bodyPost_ret (results_own Tryz.results13 _ _ bR (B64 (bdig (two a b))) _ (by rfl) (hK.at bR (B64 (bdig (two a b))) 24 (.head _)) Tryz.underlying24 rfl (B64_info _)) rfl ⟨rfl, hK.2⟩
theorem psgn_k {kind : Int} (hk : kind = 1 ∨ kind = 2) (n : Nat) {ta : Option Addr} {tc : Nat} {m : List Int} (hl : m.length ≤ 1000) (w : World) (hm : Txt w ta tc m) : Calls Tryz.prog 13 #[.int .i64 kind, .agg (B32 (bdig n)), .slice ta m.length tc] w fun x w' => x = .returned (.agg (B64 (bdig (two (sgR kind n m) (sgS kind n m))))) ∧ Below w.heap.size w w' := by
  rcases hk with rfl | rfl
  · have e : two (sgR 1 n m) (sgS 1 n m) = sigOf n m := by unfold sgR sgS sigOf; rw [if_pos rfl, if_pos rfl]
    rw [e]
    exact psgn_real n hl w hm
  · have e : two (sgR 2 n m) (sgS 2 n m) = two (oR (opub n) m) (oS (opub n) m) := by unfold sgR sgS; rw [if_neg (by decide), if_neg (by decide)]
    rw [e]
    exact psgn_open n hl w hm
theorem pkind_is (kind : Int) (w : World) : Calls Tryz.prog 10 #[.int .i64 kind] w fun x w' => x = .returned (.bool (decide (kind = 1 ∨ kind = 2))) ∧ Below w.heap.size w w' := by
  go_enter Tryz.func10, Tryz.ntmps10
  by_cases h1 : kind = 1
  · subst h1
    go_wp2
    go_ret
    exact ⟨rfl, Below.refl _ _⟩
  · by_cases h2 : kind = 2
    · subst h2
      go_wp2
      go_ret
      exact ⟨rfl, Below.refl _ _⟩
    · go_wp2
      go_ret
      refine ⟨?_, Below.refl _ _⟩
      show Ending.returned (.bool (kind == 1 || kind == 2)) = _
      rw [show (kind == 1 || kind == 2) = decide (kind = 1 ∨ kind = 2) by simp [h1, h2]]
set_option maxRecDepth 100000 in
set_option maxHeartbeats 1000000 in
theorem pver_real {p R S : Nat} {ta : Option Addr} {tc : Nat} {m : List Int} (lp : p < R256) (lR : R < R256) (lS : S < R256) (hl : m.length ≤ 1000) (w : World) (hm : Txt w ta tc m) : Calls Tryz.prog 9 #[.int .i64 1, .agg (B32 (bdig p)), .slice ta m.length tc, .agg (B64 (bdig (two R S)))] w fun x w' => x = .returned (.bool (signedB p m R S)) ∧ Below w.heap.size w w' := by
  obtain ⟨v, Hv⟩ : ∃ v, Hid (signedB p m R S = v) := ⟨_, rfl⟩
  have hc : Hid (∀ w, Txt w ta tc m → Calls Tryz.prog 19 #[.agg (B32 (bdig p)), .slice ta m.length tc, .agg (B64 (bdig (two R S)))] w fun x w' => x = .returned (.bool v) ∧ Below w.heap.size w w') := fun w hm => by rw [← Hv.out]; exact pverify_is lp lR lS hl w hm
  rw [Hv.out]
  go_enter Tryz.func9, Tryz.ntmps9
  go_upto_region 3 with fail
  have hK := ((Kp.nil w).alloc (B32 (bdig p)) 22).alloc (B64 (bdig (two R S))) 24
  rw [World.size_alloc] at hK
  generalize (w.alloc (.cells (B32 (bdig p)) 22)).alloc (.cells (B64 (bdig (two R S))) 24) = W at *
  obtain ⟨bA, HA⟩ : ∃ b, Hid (w.heap.size = b) := ⟨_, rfl⟩
  obtain ⟨bB, HR⟩ : ∃ b, Hid (bA + 1 = b) := ⟨_, rfl⟩
  have leR : w.heap.size ≤ bB := by have := HA.out; have := HR.out; omega
  have ne : Hid (bA ≠ bB) := by show _ ≠ _; have := HR.out; omega
  rw [HA.out, HR.out] at hK ⊢
  refine wp_region_ls 23 (fun _ => [(bB, B64 (bdig (two R S)), 24), (bA, B32 (bdig p), 22)]) [.v (.agg (B32 (bdig p))), .v (.slice ta m.length tc), .v (.agg (B64 (bdig (two R S)))), .v (.bool v), .v (.bool v)] hK (by kernel_rfl) (by kernel_rfl) (by rfl) (.c (.ld bA (fun _ => .tail _ (.head _)) Tryz.underlying22 rfl (B32_info _)) <| .c (.p1 2 (.slice ta m.length tc)) <| .c (.ld bB (fun _ => .head _) Tryz.underlying24 rfl (B64_info _)) <| .c (.ca fun _ w hk => hc.out w (hm.below hk.2)) <| .c (.p1 15 (.bool v)) .nil) ?_
  intro _ V hJ _
  have hK := hJ.1
  simp only [putL, Lv.val, Act.put, List.setIfInBounds_toArray, List.set_cons_succ, List.set_cons_zero]
  go_wp2
  go_ret
  exact ⟨rfl, hK.2⟩
set_option maxRecDepth 100000 in
set_option maxHeartbeats 1000000 in
theorem pver_open {p R S : Nat} {ta : Option Addr} {tc : Nat} {m : List Int} (lR : R < R256) (lS : S < R256) (hl : m.length ≤ 1000) (w : World) (hm : Txt w ta tc m) : Calls Tryz.prog 9 #[.int .i64 2, .agg (B32 (bdig p)), .slice ta m.length tc, .agg (B64 (bdig (two R S)))] w fun x w' => x = .returned (.bool (decide (two R S = two (oR p m) (oS p m)))) ∧ Below w.heap.size w w' := by
  obtain ⟨v, Hv⟩ : ∃ v, Hid (decide (two R S = two (oR p m) (oS p m)) = v) := ⟨_, rfl⟩
  obtain ⟨a, Ha⟩ : ∃ a, Hid (oR p m = a) := ⟨_, rfl⟩
  obtain ⟨b, Hb⟩ : ∃ b, Hid (oS p m = b) := ⟨_, rfl⟩
  have he := fun w => B64_eq (two R S) (two a b) (two_lt lR lS) (two_lt (by rw [← Ha.out]; exact oR_lt p m) (by rw [← Hb.out]; exact oS_lt p m)) w
  rw [Ha.out, Hb.out] at Hv
  rw [Ha.out, Hb.out, Hv.out]
  go_enter Tryz.func9, Tryz.ntmps9
  go_upto_region 5 with fail
  have hK := ((Kp.nil w).alloc (B32 (bdig p)) 22).alloc (B64 (bdig (two R S))) 24
  rw [World.size_alloc] at hK
  generalize (w.alloc (.cells (B32 (bdig p)) 22)).alloc (.cells (B64 (bdig (two R S))) 24) = W at *
  obtain ⟨bA, HA⟩ : ∃ b, Hid (w.heap.size = b) := ⟨_, rfl⟩
  obtain ⟨bB, HR⟩ : ∃ b, Hid (bA + 1 = b) := ⟨_, rfl⟩
  have leR : w.heap.size ≤ bB := by have := HA.out; have := HR.out; omega
  have ne : Hid (bA ≠ bB) := by show _ ≠ _; have := HR.out; omega
  rw [HA.out, HR.out] at hK ⊢
  refine wp_region_lv 23 (fun _ => [(bB, B64 (bdig (two R S)), 24), (bA, B32 (bdig p), 22)]) [.v (.agg (B64 (bdig (two R S)))), .v (.agg (B32 (bdig p))), .v (.slice ta m.length tc), .v (.agg (B64 (bdig (two a b)))), .v (.bool v), .v (.bool v)] hK (by kernel_rfl) (by kernel_rfl) (by kernel_rfl) (by rfl) (.c (.ld bB (fun _ => .head _) Tryz.underlying24 rfl (B64_info _)) <| .c (.ld bA (fun _ => .tail _ (.head _)) Tryz.underlying22 rfl (B32_info _)) <| .c (.p1 2 (.slice ta m.length tc)) <| .c (.ca fun _ w hk => popen_at Ha Hb hl w (hm.below hk.2)) <| .c (.p2 18 (.agg (B64 (bdig (two R S)))) 21 (.agg (B64 (bdig (two a b)))) (h := by intro ac wc f f'; have hw := he wc; go_simp; exact Hv.out)) <| .c (.p1 22 (.bool v)) .nil) ?_
  intro _ V hJ _
  have hK := hJ.1
  simp only [putL, Lv.val, Act.put, List.setIfInBounds_toArray, List.set_cons_succ, List.set_cons_zero]
  go_wp2
  go_ret
  exact ⟨rfl, hK.2⟩
set_option maxRecDepth 100000 in
set_option maxHeartbeats 1000000 in
theorem pver_none {kind : Int} (h1 : kind ≠ 1) (h2 : kind ≠ 2) {p R S : Nat} {ta : Option Addr} {tc : Nat} {m : List Int} (w : World) : Calls Tryz.prog 9 #[.int .i64 kind, .agg (B32 (bdig p)), .slice ta m.length tc, .agg (B64 (bdig (two R S)))] w fun x w' => x = .returned (.bool false) ∧ Below w.heap.size w w' := by
  have e1 : (kind == 1) = false := by simp [h1]
  have e2 : (kind == 2) = false := by simp [h2]
  go_enter Tryz.func9, Tryz.ntmps9
  go_wp2
  go_ret
  exact ⟨rfl, ((Below.refl _ _).alloc (Nat.le_refl _) _).alloc (by simp) _⟩
theorem pver_k (kind : Int) {p R S : Nat} {ta : Option Addr} {tc : Nat} {m : List Int} (lp : p < R256) (lR : R < R256) (lS : S < R256) (hl : m.length ≤ 1000) (w : World) (hm : Txt w ta tc m) : Calls Tryz.prog 9 #[.int .i64 kind, .agg (B32 (bdig p)), .slice ta m.length tc, .agg (B64 (bdig (two R S)))] w fun x w' => x = .returned (.bool (verK kind p m R S)) ∧ Below w.heap.size w w' := by
  unfold verK
  by_cases h1 : kind = 1
  · rw [if_pos h1, h1]
    exact pver_real lp lR lS hl w hm
  · rw [if_neg h1]
    by_cases h2 : kind = 2
    · rw [if_pos h2, h2]
      exact pver_open lR lS hl w hm
    · rw [if_neg h2]
      exact pver_none h1 h2 w
end Go.Proofs.YtgibllaifnnfkaaGreatDoor
namespace Go.Proofs.YtgibllaifnnfkaaGreatDoor
open Go Go.RowKit
theorem twin_is {w : World} {ta : Option Addr} {tc bA : Nat} {A : Array Value} {tA : TypeId} {m : List Int} (hm : Txt w ta tc m) (hl : m.length ≤ 1000) (hA : Own w bA A tA) :
    Calls Tryz.prog 4 #[.slice ta m.length tc] w fun e w' => ∃ ja jc bX X tX, e = .returned (.slice ja m.length jc) ∧ (∀ W, Own W bX X tX → H.OwnBytes W w.heap.size (.slice ja m.length jc) m) ∧ Own w' bX X tX ∧ (∀ b, b < w.heap.size → b ≠ bA → b ≠ bX) ∧ Below w.heap.size w w' := by
  refine (H.twin_any ta tc m w hm.1 hm.2 (by omega)).mono ?_
  rintro e w' ⟨ja, jc, rfl, hO, hV, hg⟩
  have hB : Below w.heap.size w w' := (Below.refl _ _).grown hg (Nat.le_refl _) (fun k e => by cases e)
  obtain ⟨h1, ⟨h2, h3⟩ | ⟨g, cap, cur, h2, h3, h4, h5⟩⟩ := hO
  · exact ⟨ja, jc, bA, A, tA, rfl, fun W _ => ⟨h1, .inl ⟨h2, h3⟩⟩, hA.below hB hA.lt, fun b _ hb => hb, hB⟩
  · exact ⟨ja, jc, g, cur, 5, rfl, fun W hW => ⟨h1, .inr ⟨g, cap, cur, h2, h3, hW, h5⟩⟩, h4, fun b hb _ e => by omega, hB⟩
theorem txt_of_own {w : World} {base : Nat} {ja : Option Addr} {jc : Nat} {m : List Int} (h : H.OwnBytes w base (.slice ja m.length jc) m) (hb : H.Bys m) : Txt w ja jc m := by
  obtain ⟨a, c, e, hv⟩ := h.form hb
  simp only [Value.slice.injEq] at e
  obtain ⟨rfl, -, rfl⟩ := e
  exact ⟨hv, h.none⟩
theorem bytes_is {w : World} {ta ta' : Option Addr} {tc tc' : Nat} {m : List Int} (h : Txt w ta tc m) (h' : Txt w ta' tc' m) : Calls Tryz.prog 8 #[.slice ta m.length tc, .slice ta' m.length tc'] w fun e w' => e = .returned (.bool true) ∧ Below w.heap.size w w' := H.bytes_any ta ta' m.length tc tc' m w h.1 h'.1
end Go.Proofs.YtgibllaifnnfkaaGreatDoor
namespace Go.Proofs.YtgibllaifnnfkaaGreatDoor
open Go Go.RowKit
set_option maxRecDepth 100000 in
set_option maxHeartbeats 2000000 in
theorem sexact_k {T : World → Prop} (F : Ste T) (hwk : ∀ w, T w → Calls Tryz.prog 11 #[] w fun x w' => x = .returned (.bool true) ∧ Below w.heap.size w w') {kind : Int} (hkd : kind = 1 ∨ kind = 2) {n p R S : Nat} {ta : Option Addr} {tc : Nat} {m : List Int} (lp : p < R256) (lR : R < R256) (lS : S < R256) (hn : m.length ≤ 200) (w : World) (hT : T w) (hm : Txt w ta tc m) : Calls Tryz.prog 3 #[.int .i64 kind, .agg (B32 (bdig n)), .slice ta m.length tc, .agg (B32 (bdig p)), .agg (B64 (bdig (two R S)))] w fun x w' => x = .returned (.bool true) ∧ Below w.heap.size w w' := by
  have hz := (zero_of_info zeroB32).1
  have hz64 := (zero_of_info zeroB64).1
  have hki : ¬ (200 : Int) < (m.length : Int) := by omega
  have hki' : decide ((200 : Int) < (m.length : Int)) = false := decide_eq_false hki
  have hl1 : Hid (m.length ≤ 1000) := by show _ ≤ _; omega
  replace hwk := show Hid _ from hwk
  obtain ⟨y, Hy⟩ : ∃ y, Hid (pubK kind n = y) := ⟨_, rfl⟩
  obtain ⟨a, Ha⟩ : ∃ a, Hid (sgR kind n m = a) := ⟨_, rfl⟩
  obtain ⟨b, Hb⟩ : ∃ b, Hid (sgS kind n m = b) := ⟨_, rfl⟩
  have ly : Hid (y < R256) := by show _ < _; rw [← Hy.out]; exact pubK_lt hkd n
  have la : Hid (a < R256) := by show _ < _; rw [← Ha.out]; exact sgR_lt hkd n m
  have lb : Hid (b < R256) := by show _ < _; rw [← Hb.out]; exact sgS_lt hkd n m
  have hpub : Hid (∀ w, T w → Calls Tryz.prog 5 #[.int .i64 kind, .agg (B32 (bdig n))] w fun x w' => x = .returned (.tuple #[.agg (B32 (bdig y)), .int .i64 0]) ∧ Below w.heap.size w w') := fun w hT => by rw [← Hy.out]; exact F.pub kind hkd n w hT
  have hsg : Hid (∀ a' c w, T w → Txt w a' c m → Calls Tryz.prog 6 #[.int .i64 kind, .agg (B32 (bdig n)), .slice a' m.length c] w fun x w' => x = .returned (.tuple #[.agg (B64 (bdig (two a b))), .int .i64 0]) ∧ Below w.heap.size w w') := fun a' c w hT hm => by rw [← Ha.out, ← Hb.out]; exact F.sgn kind hkd n a' c m hl1.out w hT hm
  have hver2 : Hid (∀ a' c w, T w → Txt w a' c m → Calls Tryz.prog 7 #[.int .i64 kind, .agg (B32 (bdig y)), .slice a' m.length c, .agg (B64 (bdig (two a b)))] w fun x w' => x = .returned (.bool true) ∧ Below w.heap.size w w') := fun a' c w hT hm => by have h := F.ver kind y a b a' c m ly.out la.out lb.out hl1.out w hT hm; rw [← Hy.out, ← Ha.out, ← Hb.out] at h ⊢; rw [verK_own hkd] at h; exact h
  have hppub : Hid (∀ w, Calls Tryz.prog 12 #[.int .i64 kind, .agg (B32 (bdig n))] w fun x w' => x = .returned (.agg (B32 (bdig y))) ∧ Below w.heap.size w w') := fun w => by rw [← Hy.out]; exact ppub_k hkd n w
  have hpsg : Hid (∀ a' c w, Txt w a' c m → Calls Tryz.prog 13 #[.int .i64 kind, .agg (B32 (bdig n)), .slice a' m.length c] w fun x w' => x = .returned (.agg (B64 (bdig (two a b)))) ∧ Below w.heap.size w w') := fun a' c w hm => by rw [← Ha.out, ← Hb.out]; exact psgn_k hkd n hl1.out w hm
  have hkn : Hid (∀ w, Calls Tryz.prog 10 #[.int .i64 kind] w fun x w' => x = .returned (.bool true) ∧ Below w.heap.size w w') := fun w => by have h := pkind_is kind w; rw [decide_eq_true hkd] at h; exact h
  obtain ⟨v, Hv⟩ : ∃ v, Hid (verK kind p m R S = v) := ⟨_, rfl⟩
  have hvv : (v == v) = true := beq_self_eq_true v
  have hver : Hid (∀ a' c w, T w → Txt w a' c m → Calls Tryz.prog 7 #[.int .i64 kind, .agg (B32 (bdig p)), .slice a' m.length c, .agg (B64 (bdig (two R S)))] w fun x w' => x = .returned (.bool v) ∧ Below w.heap.size w w') := fun a' c w hT hm => by have h := F.ver kind p R S a' c m lp lR lS hl1.out w hT hm; rw [Hv.out] at h; exact h
  have hpver : Hid (∀ a' c w, Txt w a' c m → Calls Tryz.prog 9 #[.int .i64 kind, .agg (B32 (bdig p)), .slice a' m.length c, .agg (B64 (bdig (two R S)))] w fun x w' => x = .returned (.bool v) ∧ Below w.heap.size w w') := fun a' c w hm => by have h := pver_k kind lp lR lS hl1.out w hm; rw [Hv.out] at h; exact h
  go_enter Tryz.func3, Tryz.ntmps3
  go_upto_region 3 with fail
  have hK := (((Kp.nil w).alloc (B32 (bdig n)) 22).alloc (B32 (bdig p)) 22).alloc (B64 (bdig (two R S))) 24
  rw [World.size_alloc, World.size_alloc] at hK
  generalize ((w.alloc (.cells (B32 (bdig n)) 22)).alloc (.cells (B32 (bdig p)) 22)).alloc (.cells (B64 (bdig (two R S))) 24) = W at *
  obtain ⟨b6, H6⟩ : ∃ b, Hid (w.heap.size = b) := ⟨_, rfl⟩
  obtain ⟨b8, H8⟩ : ∃ b, Hid (b6 + 1 = b) := ⟨_, rfl⟩
  obtain ⟨b9, H9⟩ : ∃ b, Hid (b8 + 1 = b) := ⟨_, rfl⟩
  rw [H6.out, H8.out, H9.out] at hK ⊢
  go_wp2_with fail
  refine (twin_is (hm.below hK.2) hl1.out (hK.at b6 (B32 (bdig n)) 22 (.tail _ (.tail _ (.head _))))).mono ?_
  rintro e V0 ⟨ja, jc, bX, X, tX, rfl, hO, oX, hap, bw⟩
  have hK := (hK.below bw).cons oX
  have hTx : Hid (∀ W, Own W bX X tX → Txt W ja jc m) := fun W h => txt_of_own (hO W h) hm.1.2.2.2.1
  clear bw oX hO hap
  go_upto_region 4 with fail
  refine wp_region_ls 110 (fun _ => [(bX, X, tX), (b9, B64 (bdig (two R S)), 24), (b8, B32 (bdig p), 22), (b6, B32 (bdig n), 22)]) [.v (.int .i64 kind), .v (.agg (B32 (bdig n))), .v (.tuple #[.agg (B32 (bdig y)), .int .i64 0]), .v (.tuple #[.agg (B32 (bdig y)), .int .i64 0]), .v (.agg (B32 (bdig y))), .v (.int .i64 0), .mk (B32 fun _ => 0) (B32 (bdig y)) 22 7, .o, .v (.int .i64 0)] hK (by kernel_rfl) (by kernel_rfl) (by rfl) (.c (.p1 0 (.int .i64 kind)) <| .c (.ld b6 (fun _ => (.tail _ (.tail _ (.tail _ (.head _))))) Tryz.underlying22 rfl (B32_info _)) <| .c (.ca fun _ w hk => hpub.out w (F.keep _ _ hT hk.2)) <| .c (.p1 25 (.tuple #[.agg (B32 (bdig y)), .int .i64 0])) <| .c (.p1 22 (.tuple #[.agg (B32 (bdig y)), .int .i64 0])) <| .c (.p1 22 (.tuple #[.agg (B32 (bdig y)), .int .i64 0])) <| .c (.al hz) <| .c (.st 6 (B32_info _) (B32_one _)) <| .c (.p1 27 (.int .i64 0)) .nil) ?_
  intro vs V1 hJ hf
  obtain ⟨g2, eg2⟩ := hf 6 _ _ rfl rfl
  obtain ⟨le_g2, ap_g2, o_g2⟩ := hJ.got 6 eg2
  have hK : Kp [(g2, B32 (bdig y), 22), (bX, X, tX), (b9, B64 (bdig (two R S)), 24), (b8, B32 (bdig p), 22), (b6, B32 (bdig n), 22)] w V1 := (hJ.1.cons o_g2)
  simp only [putL, Lv.val, Nat.zero_add, Nat.reduceAdd, eg2, Act.put, List.setIfInBounds_toArray, List.set_cons_succ, List.set_cons_zero]
  clear hJ hf eg2 o_g2
  clear vs
  go_upto_region 5 with fail
  refine wp_region_ls 110 (fun _ => [(g2, B32 (bdig y), 22), (bX, X, tX), (b9, B64 (bdig (two R S)), 24), (b8, B32 (bdig p), 22), (b6, B32 (bdig n), 22)]) [.v (.int .i64 kind), .v (.agg (B32 (bdig n))), .v (.slice ja m.length jc), .v (.tuple #[.agg (B64 (bdig (two a b))), .int .i64 0]), .v (.tuple #[.agg (B64 (bdig (two a b))), .int .i64 0]), .v (.agg (B64 (bdig (two a b)))), .v (.int .i64 0), .mk (B64 fun _ => 0) (B64 (bdig (two a b))) 24 8, .o, .v (.int .i64 0)] hK (by kernel_rfl) (by kernel_rfl) (by rfl) (.c (.p1 0 (.int .i64 kind)) <| .c (.ld b6 (fun _ => (.tail _ (.tail _ (.tail _ (.tail _ (.head _)))))) Tryz.underlying22 rfl (B32_info _)) <| .c (.p1 11 (.slice ja m.length jc)) <| .c (.ca fun _ w hk => hsg.out _ _ w (F.keep _ _ hT hk.2) (hTx.out _ (hk.at bX X tX (.tail _ (.head _))))) <| .c (.p1 32 (.tuple #[.agg (B64 (bdig (two a b))), .int .i64 0])) <| .c (.p1 28 (.tuple #[.agg (B64 (bdig (two a b))), .int .i64 0])) <| .c (.p1 28 (.tuple #[.agg (B64 (bdig (two a b))), .int .i64 0])) <| .c (.al hz64) <| .c (.st 7 (B64_info _) (B64_one _)) <| .c (.p1 34 (.int .i64 0)) .nil) ?_
  intro vs V3 hJ hf
  obtain ⟨g4, eg4⟩ := hf 7 _ _ rfl rfl
  obtain ⟨le_g4, ap_g4, o_g4⟩ := hJ.got 7 eg4
  have hK : Kp [(g4, B64 (bdig (two a b)), 24), (g2, B32 (bdig y), 22), (bX, X, tX), (b9, B64 (bdig (two R S)), 24), (b8, B32 (bdig p), 22), (b6, B32 (bdig n), 22)] w V3 := (hJ.1.cons o_g4)
  simp only [putL, Lv.val, Nat.zero_add, Nat.reduceAdd, eg4, Act.put, List.setIfInBounds_toArray, List.set_cons_succ, List.set_cons_zero]
  clear hJ hf eg4 o_g4
  clear vs
  go_upto_region 6 with fail
  refine wp_region_ls 110 (fun _ => [(g4, B64 (bdig (two a b)), 24), (g2, B32 (bdig y), 22), (bX, X, tX), (b9, B64 (bdig (two R S)), 24), (b8, B32 (bdig p), 22), (b6, B32 (bdig n), 22)]) [.v (.int .i64 kind), .v (.agg (B32 (bdig p))), .v (.slice ja m.length jc), .v (.agg (B64 (bdig (two R S)))), .v (.bool v), .v (.bool v)] hK (by kernel_rfl) (by kernel_rfl) (by rfl) (.c (.p1 0 (.int .i64 kind)) <| .c (.ld b8 (fun _ => (.tail _ (.tail _ (.tail _ (.tail _ (.head _)))))) Tryz.underlying22 rfl (B32_info _)) <| .c (.p1 11 (.slice ja m.length jc)) <| .c (.ld b9 (fun _ => (.tail _ (.tail _ (.tail _ (.head _))))) Tryz.underlying24 rfl (B64_info _)) <| .c (.ca fun _ w hk => hver.out _ _ w (F.keep _ _ hT hk.2) (hTx.out _ (hk.at bX X tX (.tail _ (.tail _ (.head _)))))) <| .c (.p1 39 (.bool v)) .nil) ?_
  intro _ V5 hJ _
  have hK : Kp [(g4, B64 (bdig (two a b)), 24), (g2, B32 (bdig y), 22), (bX, X, tX), (b9, B64 (bdig (two R S)), 24), (b8, B32 (bdig p), 22), (b6, B32 (bdig n), 22)] w V5 := hJ.1
  clear hJ
  simp only [putL, Lv.val, Act.put, List.setIfInBounds_toArray, List.set_cons_succ, List.set_cons_zero]
  go_upto_region 7 with fail
  refine wp_region_ls 110 (fun _ => [(g4, B64 (bdig (two a b)), 24), (g2, B32 (bdig y), 22), (bX, X, tX), (b9, B64 (bdig (two R S)), 24), (b8, B32 (bdig p), 22), (b6, B32 (bdig n), 22)]) [.v (.slice ja m.length jc), .v (.slice ta m.length tc), .v (.bool true), .v (.bool false), .v (.bool false), .v (.bool v), .v (.int .i64 kind), .v (.agg (B32 (bdig p))), .v (.slice ta m.length tc), .v (.agg (B64 (bdig (two R S)))), .v (.bool v), .v (.bool false), .v (.bool false)] hK (by kernel_rfl) (by kernel_rfl) (by rfl) (.c (.p1 11 (.slice ja m.length jc)) <| .c (.p1 2 (.slice ta m.length tc)) <| .c (.ca fun _ w hk => bytes_is (hTx.out _ (hk.at bX X tX (.tail _ (.tail _ (.head _))))) (hm.below hk.2)) <| .c (.p1 42 (.bool true)) <| .c (.p1 43 (.bool false)) <| .c (.p1 16 (.bool v)) <| .c (.p1 0 (.int .i64 kind)) <| .c (.ld b8 (fun _ => (.tail _ (.tail _ (.tail _ (.tail _ (.head _)))))) Tryz.underlying22 rfl (B32_info _)) <| .c (.p1 2 (.slice ta m.length tc)) <| .c (.ld b9 (fun _ => (.tail _ (.tail _ (.tail _ (.head _))))) Tryz.underlying24 rfl (B64_info _)) <| .c (.ca fun _ w hk => hpver.out _ _ w (hm.below hk.2)) <| .c (.p2 45 (.bool v) 50 (.bool v)) <| .c (.p2 44 (.bool false) 51 (.bool false)) .nil) ?_
  intro _ V6 hJ _
  have hK : Kp [(g4, B64 (bdig (two a b)), 24), (g2, B32 (bdig y), 22), (bX, X, tX), (b9, B64 (bdig (two R S)), 24), (b8, B32 (bdig p), 22), (b6, B32 (bdig n), 22)] w V6 := hJ.1
  clear hJ
  simp only [putL, Lv.val, Act.put, List.setIfInBounds_toArray, List.set_cons_succ, List.set_cons_zero]
  go_upto_region 9 with fail
  refine wp_region_ls 110 (fun _ => [(g4, B64 (bdig (two a b)), 24), (g2, B32 (bdig y), 22), (bX, X, tX), (b9, B64 (bdig (two R S)), 24), (b8, B32 (bdig p), 22), (b6, B32 (bdig n), 22)]) [.v (.int .i64 kind), .v (.bool true), .v (.bool false)] hK (by kernel_rfl) (by kernel_rfl) (by rfl) (.c (.p1 0 (.int .i64 kind)) <| .c (.ca fun _ w hk => hkn.out w) <| .c (.p1 54 (.bool true)) .nil) ?_
  intro _ V7 hJ _
  have hK : Kp [(g4, B64 (bdig (two a b)), 24), (g2, B32 (bdig y), 22), (bX, X, tX), (b9, B64 (bdig (two R S)), 24), (b8, B32 (bdig p), 22), (b6, B32 (bdig n), 22)] w V7 := hJ.1
  clear hJ
  simp only [putL, Lv.val, Act.put, List.setIfInBounds_toArray, List.set_cons_succ, List.set_cons_zero]
  go_upto_region 11 with fail
  refine wp_region_lv 110 (fun _ => [(g4, B64 (bdig (two a b)), 24), (g2, B32 (bdig y), 22), (bX, X, tX), (b9, B64 (bdig (two R S)), 24), (b8, B32 (bdig p), 22), (b6, B32 (bdig n), 22)]) [.v (.int .i64 0), .v (.bool true), .v (.bool true), .v (.int .i64 0), .v (.bool true), .v (.bool true), .v (.bool true), .v (.agg (B32 (bdig y))), .v (.int .i64 kind), .v (.agg (B32 (bdig n))), .v (.agg (B32 (bdig y))), .v (.bool true), .v (.bool true), .v (.bool true), .v (.agg (B64 (bdig (two a b)))), .v (.int .i64 kind), .v (.agg (B32 (bdig n))), .v (.slice ta m.length tc), .v (.agg (B64 (bdig (two a b)))), .v (.bool true), .v (.bool true), .v (.bool true), .v (.int .i64 kind), .v (.agg (B32 (bdig y))), .v (.slice ja m.length jc), .v (.agg (B64 (bdig (two a b)))), .v (.bool true), .v (.bool true), .v (.bool true), .v (.bool true), .v (.bool true), .v (.bool true)] hK (by kernel_rfl) (by kernel_rfl) (by kernel_rfl) (by rfl) (.c (.p1 13 (.int .i64 0)) <| .c (.p1 79 (.int .i64 0)) <| .c (.p1 80 (.bool true)) <| .c (.p1 15 (.int .i64 0)) <| .c (.p1 82 (.int .i64 0)) <| .c (.p2 81 (.bool true) 83 (.bool true)) <| .c (.p1 84 (.bool true)) <| .c (.ld g2 (fun _ => (.tail _ (.head _))) Tryz.underlying22 rfl (B32_info _)) <| .c (.p1 0 (.int .i64 kind)) <| .c (.ld b6 (fun _ => (.tail _ (.tail _ (.tail _ (.tail _ (.tail _ (.head _))))))) Tryz.underlying22 rfl (B32_info _)) <| .c (.ca fun _ w hk => hppub.out w) <| .c (.p2 86 (.agg (B32 (bdig y))) 89 (.agg (B32 (bdig y))) (h := by intro ac wc f f'; have he := B32_eq y y ly.out ly.out wc; rw [decide_eq_true rfl] at he; go_simp)) <| .c (.p2 85 (.bool true) 90 (.bool true)) <| .c (.p1 91 (.bool true)) <| .c (.ld g4 (fun _ => .head _) Tryz.underlying24 rfl (B64_info _)) <| .c (.p1 0 (.int .i64 kind)) <| .c (.ld b6 (fun _ => (.tail _ (.tail _ (.tail _ (.tail _ (.tail _ (.head _))))))) Tryz.underlying22 rfl (B32_info _)) <| .c (.p1 2 (.slice ta m.length tc)) <| .c (.ca fun _ w hk => hpsg.out _ _ w (hm.below hk.2)) <| .c (.p2 93 (.agg (B64 (bdig (two a b)))) 97 (.agg (B64 (bdig (two a b)))) (h := by intro ac wc f f'; have he := B64_same (two a b) (two_lt la.out lb.out) wc; go_simp)) <| .c (.p2 92 (.bool true) 98 (.bool true)) <| .c (.p1 99 (.bool true)) <| .c (.p1 0 (.int .i64 kind)) <| .c (.ld g2 (fun _ => (.tail _ (.head _))) Tryz.underlying22 rfl (B32_info _)) <| .c (.p1 11 (.slice ja m.length jc)) <| .c (.ld g4 (fun _ => .head _) Tryz.underlying24 rfl (B64_info _)) <| .c (.ca fun _ w hk => hver2.out _ _ w (F.keep _ _ hT hk.2) (hTx.out _ (hk.at bX X tX (.tail _ (.tail _ (.head _)))))) <| .c (.p2 100 (.bool true) 105 (.bool true)) <| .c (.p1 106 (.bool true)) <| .c (.ca fun _ w hk => hwk.out w (F.keep _ _ hT hk.2)) <| .c (.p2 107 (.bool true) 108 (.bool true)) <| .c (.p1 109 (.bool true)) .nil) ?_
  intro _ V8 hJ _
  have hK : Kp [(g4, B64 (bdig (two a b)), 24), (g2, B32 (bdig y), 22), (bX, X, tX), (b9, B64 (bdig (two R S)), 24), (b8, B32 (bdig p), 22), (b6, B32 (bdig n), 22)] w V8 := hJ.1
  clear hJ
  simp only [putL, Lv.val, Act.put, List.setIfInBounds_toArray, List.set_cons_succ, List.set_cons_zero]
  go_wp2
  go_ret
  exact ⟨rfl, hK.2⟩
set_option maxRecDepth 100000 in
set_option maxHeartbeats 2000000 in
theorem sexact_n {T : World → Prop} (F : Ste T) (hwk : ∀ w, T w → Calls Tryz.prog 11 #[] w fun x w' => x = .returned (.bool true) ∧ Below w.heap.size w w') {kind : Int} (h1 : kind ≠ 1) (h2 : kind ≠ 2) {n p R S : Nat} {ta : Option Addr} {tc : Nat} {m : List Int} (lp : p < R256) (lR : R < R256) (lS : S < R256) (hn : m.length ≤ 200) (w : World) (hT : T w) (hm : Txt w ta tc m) : Calls Tryz.prog 3 #[.int .i64 kind, .agg (B32 (bdig n)), .slice ta m.length tc, .agg (B32 (bdig p)), .agg (B64 (bdig (two R S)))] w fun x w' => x = .returned (.bool true) ∧ Below w.heap.size w w' := by
  have hz := (zero_of_info zeroB32).1
  have hz64 := (zero_of_info zeroB64).1
  have hki : ¬ (200 : Int) < (m.length : Int) := by omega
  have hki' : decide ((200 : Int) < (m.length : Int)) = false := decide_eq_false hki
  have hl1 : Hid (m.length ≤ 1000) := by show _ ≤ _; omega
  replace hwk := show Hid _ from hwk
  have hpub : Hid (∀ w, T w → Calls Tryz.prog 5 #[.int .i64 kind, .agg (B32 (bdig n))] w fun x w' => x = .returned (.tuple #[.agg (B32 fun _ => 0), .int .i64 1]) ∧ Below w.heap.size w w') := fun w hT => F.pub_no kind h1 h2 n w hT
  have hsg : Hid (∀ a' c w, T w → Txt w a' c m → Calls Tryz.prog 6 #[.int .i64 kind, .agg (B32 (bdig n)), .slice a' m.length c] w fun x w' => x = .returned (.tuple #[.agg (B64 fun _ => 0), .int .i64 1]) ∧ Below w.heap.size w w') := fun a' c w hT hm => F.sgn_no kind h1 h2 n a' c m hl1.out w hT hm
  have hkn : Hid (∀ w, Calls Tryz.prog 10 #[.int .i64 kind] w fun x w' => x = .returned (.bool false) ∧ Below w.heap.size w w') := fun w => by have h := pkind_is kind w; rw [decide_eq_false (fun e => e.elim h1 h2)] at h; exact h
  have z0 : B32 (bdig 0) = B32 fun _ => 0 := B32_ext fun i _ => bdig_zero i
  have z4 : B64 (bdig 0) = B64 fun _ => 0 := B64_ext fun i _ => bdig_zero i
  obtain ⟨v, Hv⟩ : ∃ v, Hid (verK kind p m R S = v) := ⟨_, rfl⟩
  have hvf : v = false := by rw [← Hv.out]; unfold verK; rw [if_neg h1, if_neg h2]
  subst hvf
  have hver : Hid (∀ a' c w, T w → Txt w a' c m → Calls Tryz.prog 7 #[.int .i64 kind, .agg (B32 (bdig p)), .slice a' m.length c, .agg (B64 (bdig (two R S)))] w fun x w' => x = .returned (.bool false) ∧ Below w.heap.size w w') := fun a' c w hT hm => by have h := F.ver kind p R S a' c m lp lR lS hl1.out w hT hm; rw [Hv.out] at h; exact h
  have hpver : Hid (∀ a' c w, Txt w a' c m → Calls Tryz.prog 9 #[.int .i64 kind, .agg (B32 (bdig p)), .slice a' m.length c, .agg (B64 (bdig (two R S)))] w fun x w' => x = .returned (.bool false) ∧ Below w.heap.size w w') := fun a' c w hm => by have h := pver_k kind lp lR lS hl1.out w hm; rw [Hv.out] at h; exact h
  go_enter Tryz.func3, Tryz.ntmps3
  go_upto_region 3 with fail
  have hK := (((Kp.nil w).alloc (B32 (bdig n)) 22).alloc (B32 (bdig p)) 22).alloc (B64 (bdig (two R S))) 24
  rw [World.size_alloc, World.size_alloc] at hK
  generalize ((w.alloc (.cells (B32 (bdig n)) 22)).alloc (.cells (B32 (bdig p)) 22)).alloc (.cells (B64 (bdig (two R S))) 24) = W at *
  obtain ⟨b6, H6⟩ : ∃ b, Hid (w.heap.size = b) := ⟨_, rfl⟩
  obtain ⟨b8, H8⟩ : ∃ b, Hid (b6 + 1 = b) := ⟨_, rfl⟩
  obtain ⟨b9, H9⟩ : ∃ b, Hid (b8 + 1 = b) := ⟨_, rfl⟩
  rw [H6.out, H8.out, H9.out] at hK ⊢
  go_wp2_with fail
  refine (twin_is (hm.below hK.2) hl1.out (hK.at b6 (B32 (bdig n)) 22 (.tail _ (.tail _ (.head _))))).mono ?_
  rintro e V0 ⟨ja, jc, bX, X, tX, rfl, hO, oX, hap, bw⟩
  have hK := (hK.below bw).cons oX
  have hTx : Hid (∀ W, Own W bX X tX → Txt W ja jc m) := fun W h => txt_of_own (hO W h) hm.1.2.2.2.1
  clear bw oX hO hap
  go_upto_region 4 with fail
  refine wp_region_ls 110 (fun _ => [(bX, X, tX), (b9, B64 (bdig (two R S)), 24), (b8, B32 (bdig p), 22), (b6, B32 (bdig n), 22)]) [.v (.int .i64 kind), .v (.agg (B32 (bdig n))), .v (.tuple #[.agg (B32 fun _ => 0), .int .i64 1]), .v (.tuple #[.agg (B32 fun _ => 0), .int .i64 1]), .v (.agg (B32 fun _ => 0)), .v (.int .i64 1), .mk (B32 fun _ => 0) (B32 fun _ => 0) 22 7, .o, .v (.int .i64 1)] hK (by kernel_rfl) (by kernel_rfl) (by rfl) (.c (.p1 0 (.int .i64 kind)) <| .c (.ld b6 (fun _ => (.tail _ (.tail _ (.tail _ (.head _))))) Tryz.underlying22 rfl (B32_info _)) <| .c (.ca fun _ w hk => hpub.out w (F.keep _ _ hT hk.2)) <| .c (.p1 25 (.tuple #[.agg (B32 fun _ => 0), .int .i64 1])) <| .c (.p1 22 (.tuple #[.agg (B32 fun _ => 0), .int .i64 1])) <| .c (.p1 22 (.tuple #[.agg (B32 fun _ => 0), .int .i64 1])) <| .c (.al hz) <| .c (.st 6 (B32_info _) (B32_one _)) <| .c (.p1 27 (.int .i64 1)) .nil) ?_
  intro vs V1 hJ hf
  obtain ⟨g2, eg2⟩ := hf 6 _ _ rfl rfl
  obtain ⟨le_g2, ap_g2, o_g2⟩ := hJ.got 6 eg2
  have hK : Kp [(g2, B32 fun _ => 0, 22), (bX, X, tX), (b9, B64 (bdig (two R S)), 24), (b8, B32 (bdig p), 22), (b6, B32 (bdig n), 22)] w V1 := (hJ.1.cons o_g2)
  simp only [putL, Lv.val, Nat.zero_add, Nat.reduceAdd, eg2, Act.put, List.setIfInBounds_toArray, List.set_cons_succ, List.set_cons_zero]
  clear hJ hf eg2 o_g2
  clear vs
  go_upto_region 5 with fail
  refine wp_region_ls 110 (fun _ => [(g2, B32 fun _ => 0, 22), (bX, X, tX), (b9, B64 (bdig (two R S)), 24), (b8, B32 (bdig p), 22), (b6, B32 (bdig n), 22)]) [.v (.int .i64 kind), .v (.agg (B32 (bdig n))), .v (.slice ja m.length jc), .v (.tuple #[.agg (B64 fun _ => 0), .int .i64 1]), .v (.tuple #[.agg (B64 fun _ => 0), .int .i64 1]), .v (.agg (B64 fun _ => 0)), .v (.int .i64 1), .mk (B64 fun _ => 0) (B64 fun _ => 0) 24 8, .o, .v (.int .i64 1)] hK (by kernel_rfl) (by kernel_rfl) (by rfl) (.c (.p1 0 (.int .i64 kind)) <| .c (.ld b6 (fun _ => (.tail _ (.tail _ (.tail _ (.tail _ (.head _)))))) Tryz.underlying22 rfl (B32_info _)) <| .c (.p1 11 (.slice ja m.length jc)) <| .c (.ca fun _ w hk => hsg.out _ _ w (F.keep _ _ hT hk.2) (hTx.out _ (hk.at bX X tX (.tail _ (.head _))))) <| .c (.p1 32 (.tuple #[.agg (B64 fun _ => 0), .int .i64 1])) <| .c (.p1 28 (.tuple #[.agg (B64 fun _ => 0), .int .i64 1])) <| .c (.p1 28 (.tuple #[.agg (B64 fun _ => 0), .int .i64 1])) <| .c (.al hz64) <| .c (.st 7 (B64_info _) (B64_one _)) <| .c (.p1 34 (.int .i64 1)) .nil) ?_
  intro vs V3 hJ hf
  obtain ⟨g4, eg4⟩ := hf 7 _ _ rfl rfl
  obtain ⟨le_g4, ap_g4, o_g4⟩ := hJ.got 7 eg4
  have hK : Kp [(g4, B64 fun _ => 0, 24), (g2, B32 fun _ => 0, 22), (bX, X, tX), (b9, B64 (bdig (two R S)), 24), (b8, B32 (bdig p), 22), (b6, B32 (bdig n), 22)] w V3 := (hJ.1.cons o_g4)
  simp only [putL, Lv.val, Nat.zero_add, Nat.reduceAdd, eg4, Act.put, List.setIfInBounds_toArray, List.set_cons_succ, List.set_cons_zero]
  clear hJ hf eg4 o_g4
  clear vs
  go_upto_region 6 with fail
  refine wp_region_ls 110 (fun _ => [(g4, B64 fun _ => 0, 24), (g2, B32 fun _ => 0, 22), (bX, X, tX), (b9, B64 (bdig (two R S)), 24), (b8, B32 (bdig p), 22), (b6, B32 (bdig n), 22)]) [.v (.int .i64 kind), .v (.agg (B32 (bdig p))), .v (.slice ja m.length jc), .v (.agg (B64 (bdig (two R S)))), .v (.bool false), .v (.bool false)] hK (by kernel_rfl) (by kernel_rfl) (by rfl) (.c (.p1 0 (.int .i64 kind)) <| .c (.ld b8 (fun _ => (.tail _ (.tail _ (.tail _ (.tail _ (.head _)))))) Tryz.underlying22 rfl (B32_info _)) <| .c (.p1 11 (.slice ja m.length jc)) <| .c (.ld b9 (fun _ => (.tail _ (.tail _ (.tail _ (.head _))))) Tryz.underlying24 rfl (B64_info _)) <| .c (.ca fun _ w hk => hver.out _ _ w (F.keep _ _ hT hk.2) (hTx.out _ (hk.at bX X tX (.tail _ (.tail _ (.head _)))))) <| .c (.p1 39 (.bool false)) .nil) ?_
  intro _ V5 hJ _
  have hK : Kp [(g4, B64 fun _ => 0, 24), (g2, B32 fun _ => 0, 22), (bX, X, tX), (b9, B64 (bdig (two R S)), 24), (b8, B32 (bdig p), 22), (b6, B32 (bdig n), 22)] w V5 := hJ.1
  clear hJ
  simp only [putL, Lv.val, Act.put, List.setIfInBounds_toArray, List.set_cons_succ, List.set_cons_zero]
  go_upto_region 7 with fail
  refine wp_region_ls 110 (fun _ => [(g4, B64 fun _ => 0, 24), (g2, B32 fun _ => 0, 22), (bX, X, tX), (b9, B64 (bdig (two R S)), 24), (b8, B32 (bdig p), 22), (b6, B32 (bdig n), 22)]) [.v (.slice ja m.length jc), .v (.slice ta m.length tc), .v (.bool true), .v (.bool false), .v (.bool false), .v (.bool false), .v (.int .i64 kind), .v (.agg (B32 (bdig p))), .v (.slice ta m.length tc), .v (.agg (B64 (bdig (two R S)))), .v (.bool false), .v (.bool false), .v (.bool false)] hK (by kernel_rfl) (by kernel_rfl) (by rfl) (.c (.p1 11 (.slice ja m.length jc)) <| .c (.p1 2 (.slice ta m.length tc)) <| .c (.ca fun _ w hk => bytes_is (hTx.out _ (hk.at bX X tX (.tail _ (.tail _ (.head _))))) (hm.below hk.2)) <| .c (.p1 42 (.bool true)) <| .c (.p1 43 (.bool false)) <| .c (.p1 16 (.bool false)) <| .c (.p1 0 (.int .i64 kind)) <| .c (.ld b8 (fun _ => (.tail _ (.tail _ (.tail _ (.tail _ (.head _)))))) Tryz.underlying22 rfl (B32_info _)) <| .c (.p1 2 (.slice ta m.length tc)) <| .c (.ld b9 (fun _ => (.tail _ (.tail _ (.tail _ (.head _))))) Tryz.underlying24 rfl (B64_info _)) <| .c (.ca fun _ w hk => hpver.out _ _ w (hm.below hk.2)) <| .c (.p2 45 (.bool false) 50 (.bool false)) <| .c (.p2 44 (.bool false) 51 (.bool false)) .nil) ?_
  intro _ V6 hJ _
  have hK : Kp [(g4, B64 fun _ => 0, 24), (g2, B32 fun _ => 0, 22), (bX, X, tX), (b9, B64 (bdig (two R S)), 24), (b8, B32 (bdig p), 22), (b6, B32 (bdig n), 22)] w V6 := hJ.1
  clear hJ
  simp only [putL, Lv.val, Act.put, List.setIfInBounds_toArray, List.set_cons_succ, List.set_cons_zero]
  go_upto_region 9 with fail
  refine wp_region_ls 110 (fun _ => [(g4, B64 fun _ => 0, 24), (g2, B32 fun _ => 0, 22), (bX, X, tX), (b9, B64 (bdig (two R S)), 24), (b8, B32 (bdig p), 22), (b6, B32 (bdig n), 22)]) [.v (.int .i64 kind), .v (.bool false), .v (.bool true)] hK (by kernel_rfl) (by kernel_rfl) (by rfl) (.c (.p1 0 (.int .i64 kind)) <| .c (.ca fun _ w hk => hkn.out w) <| .c (.p1 54 (.bool false)) .nil) ?_
  intro _ V7 hJ _
  have hK : Kp [(g4, B64 fun _ => 0, 24), (g2, B32 fun _ => 0, 22), (bX, X, tX), (b9, B64 (bdig (two R S)), 24), (b8, B32 (bdig p), 22), (b6, B32 (bdig n), 22)] w V7 := hJ.1
  clear hJ
  simp only [putL, Lv.val, Act.put, List.setIfInBounds_toArray, List.set_cons_succ, List.set_cons_zero]
  go_upto_region 10 with fail
  refine wp_region_ls 110 (fun _ => [(g4, B64 fun _ => 0, 24), (g2, B32 fun _ => 0, 22), (bX, X, tX), (b9, B64 (bdig (two R S)), 24), (b8, B32 (bdig p), 22), (b6, B32 (bdig n), 22)]) [.v (.int .i64 1), .v (.bool true), .v (.bool true), .v (.int .i64 1), .v (.bool true), .v (.bool true), .v (.bool true), .v (.agg (B32 fun _ => 0)), .v (.agg (B32 fun _ => 0)), .v (.bool true), .v (.bool true), .v (.bool true), .v (.agg (B64 fun _ => 0)), .v (.agg (B64 fun _ => 0)), .v (.bool true), .v (.bool true), .v (.bool true), .v (.bool false), .v (.bool true), .v (.bool true), .v (.bool true), .v (.bool true), .v (.bool true), .v (.bool true)] hK (by kernel_rfl) (by kernel_rfl) (by rfl) (.c (.p1 13 (.int .i64 1)) <| .c (.p1 56 (.int .i64 1)) <| .c (.p1 57 (.bool true)) <| .c (.p1 15 (.int .i64 1)) <| .c (.p1 59 (.int .i64 1)) <| .c (.p2 58 (.bool true) 60 (.bool true)) <| .c (.p1 61 (.bool true)) <| .c (.ld g2 (fun _ => (.tail _ (.head _))) Tryz.underlying22 rfl (B32_info _)) <| .c .p0 <| .c (.p2 63 (.agg (B32 fun _ => 0)) 64 (.agg (B32 fun _ => 0)) (h := by intro ac wc f f'; have he := B32_eq 0 0 (by decide) (by decide) wc; rw [decide_eq_true rfl, z0] at he; go_simp)) <| .c (.p2 62 (.bool true) 65 (.bool true)) <| .c (.p1 66 (.bool true)) <| .c (.ld g4 (fun _ => .head _) Tryz.underlying24 rfl (B64_info _)) <| .c .p0 <| .c (.p2 68 (.agg (B64 fun _ => 0)) 69 (.agg (B64 fun _ => 0)) (h := by intro ac wc f f'; have he := B64_same 0 (by decide) wc; rw [z4] at he; go_simp)) <| .c (.p2 67 (.bool true) 70 (.bool true)) <| .c (.p1 71 (.bool true)) <| .c (.p1 16 (.bool false)) <| .c (.p1 73 (.bool false)) <| .c (.p2 72 (.bool true) 74 (.bool true)) <| .c (.p1 75 (.bool true)) <| .c (.ca fun _ w hk => hwk.out w (F.keep _ _ hT hk.2)) <| .c (.p2 76 (.bool true) 77 (.bool true)) <| .c (.p1 78 (.bool true)) .nil) ?_
  intro _ V8 hJ _
  have hK : Kp [(g4, B64 fun _ => 0, 24), (g2, B32 fun _ => 0, 22), (bX, X, tX), (b9, B64 (bdig (two R S)), 24), (b8, B32 (bdig p), 22), (b6, B32 (bdig n), 22)] w V8 := hJ.1
  clear hJ
  simp only [putL, Lv.val, Act.put, List.setIfInBounds_toArray, List.set_cons_succ, List.set_cons_zero]
  go_wp2
  go_ret
  exact ⟨rfl, hK.2⟩
set_option maxRecDepth 100000 in
set_option maxHeartbeats 1000000 in
theorem sexact_long {kind : Int} {n p : Nat} {z : Nat → Nat} {ta : Option Addr} {tc : Nat} {m : List Int} (hn : 200 < m.length) (w : World) : Calls Tryz.prog 3 #[.int .i64 kind, .agg (B32 (bdig n)), .slice ta m.length tc, .agg (B32 (bdig p)), .agg (B64 z)] w fun x w' => x = .returned (.bool true) ∧ Below w.heap.size w w' := by
  have hki : (200 : Int) < (m.length : Int) := by omega
  go_enter Tryz.func3, Tryz.ntmps3
  go_wp2
  go_ret
  exact ⟨rfl, (((Below.refl _ _).alloc (Nat.le_refl _) _).alloc (by simp) _).alloc (by simp; omega) _⟩
end Go.Proofs.YtgibllaifnnfkaaGreatDoor
namespace Go.Proofs.YtgibllaifnnfkaaGreatDoor
open Go Go.RowKit
theorem sexact_row {T : World → Prop} (F : Ste T) (hwk : ∀ w, T w → Calls Tryz.prog 11 #[] w fun x w' => x = .returned (.bool true) ∧ Below w.heap.size w w') {kind : Int} {n p z : Nat} (lp : p < R256) (hz : z < R512) {a : Option Addr} {len cap : Nat} {zs : List Int} {w : World} (h : IsRow .u8 w a len cap zs) (hT : T w) : Calls Tryz.prog 3 #[.int .i64 kind, .agg (B32 (bdig n)), .slice a len cap, .agg (B32 (bdig p)), .agg (B64 (bdig z))] w fun x w' => x = .returned (.bool true) ∧ Below w.heap.size w w' := by
  obtain ⟨e, ht⟩ := txt_of_row h
  rw [← two_parts z]
  by_cases hn : (zs.take len).length ≤ 200
  · by_cases hkd : kind = 1 ∨ kind = 2
    · have := sexact_k F hwk hkd (n := n) lp (lo_lt z) (hi_lt hz) hn w hT ht
      rw [← e] at this
      exact this
    · have := sexact_n F hwk (fun h => hkd (.inl h)) (fun h => hkd (.inr h)) (n := n) lp (lo_lt z) (hi_lt hz) hn w hT ht
      rw [← e] at this
      exact this
  · have := sexact_long (kind := kind) (n := n) (p := p) (z := bdig (two (z % R256) (z / R256))) (ta := a) (tc := cap) (m := zs.take len) (by omega) w
    rw [← e] at this
    exact this
end Go.Proofs.YtgibllaifnnfkaaGreatDoor
