/- Of the texts SV1, SM1, UD, US, SJ1, TXP, JV1, JV2: what the card of this claim reaches. -/
import Derived.Test.YtgibllaifnnfkaaGreatDoorXE26
import Derived.Test.YtgibllaifnnfkaaGreatDoorXE4
import Derived.Test.YtgibllaifnnfkaaGreatDoorXE25
import Derived.Test.YtgibllaifnnfkaaGreatDoorXE23
import Derived.Test.YtgibllaifnnfkaaGreatDoorXE24
namespace Go.Proofs.YtgibllaifnnfkaaGreatDoor
open Go Go.RowKit
set_option maxRecDepth 100000 in
set_option maxHeartbeats 600000 in
theorem verify_gen {T : World → Prop} (F : Low T) {p R S k t : Nat} {f g : Nat → Nat} {e1 e2 : Int} {b0 v0 v : Bool} {ta : Option Addr} {tc : Nat} {m : List Int} (lR : Hid (R < R256)) (lS : Hid (S < R256)) (Hk : Hid (dn (by32 R ++ (by32 p ++ m)) % LL = k)) (hS : Hid (decide (S < LL) = b0))
    (hM : Hid (∀ w, T w → Calls Tryz.prog 33 #[.agg (B32 (bdig k)), .agg (B32 (bdig p))] w fun x w' => x = .returned (.tuple #[.agg (B32 f), .int .i64 e1]) ∧ Below w.heap.size w w')) (hA : Hid (e1 = 0 → (∀ w, T w → Calls Tryz.prog 34 #[.agg (B32 (bdig R)), .agg (B32 f)] w fun x w' => x = .returned (.tuple #[.agg (B32 g), .int .i64 e2]) ∧ Below w.heap.size w w')))
    (Ht : Hid (enc (Pt.times S BP) = t)) (heq : ∀ w, (Op.equalIn 10000 22 (.agg (B32 g)) (.agg (B32 (bdig t)))).run Tryz.prog w = .ok v0 w)
    (h0 : Hid (b0 = false → v = false)) (h1 : Hid ((e1 = 1 ∧ v = false) ∨ (e1 = 0 ∧ ((e2 = 1 ∧ v = false) ∨ (e2 = 0 ∧ (b0 = true → v0 = v)))))) (hl : m.length ≤ 1000) (w : World) (hT : T w) (hm : Txt w ta tc m) : Calls Tryz.prog 18 #[.agg (B32 (bdig p)), .slice ta m.length tc, .agg (B64 (bdig (two R S)))] w fun x w' => x = .returned (.bool v) ∧ Below w.heap.size w w' := by
  have hz := (zero_of_info zeroB32).1
  go_enter Tryz.func18, Tryz.ntmps18
  go_upto_region 1 with fail
  have hK := ((Kp.nil w).alloc (B32 (bdig p)) 22).alloc (B64 (bdig (two R S))) 24
  rw [World.size_alloc] at hK
  generalize (w.alloc (.cells (B32 (bdig p)) 22)).alloc (.cells (B64 (bdig (two R S))) 24) = W at *
  obtain ⟨bA, HbA⟩ : ∃ b, Hid (w.heap.size = b) := ⟨_, rfl⟩
  obtain ⟨bS, HbS⟩ : ∃ b, Hid (bA + 1 = b) := ⟨_, rfl⟩
  have le_bA : Hid (w.heap.size ≤ bA) := by show _ ≤ _; have := HbA.out; omega
  have le_bS : Hid (w.heap.size ≤ bS) := by show _ ≤ _; have := HbA.out; have := HbS.out; omega
  have ne_bA_bS : Hid (bA ≠ bS) := by show _ ≠ _; have := HbS.out; omega
  rw [HbA.out, HbS.out] at hK ⊢
  refine wp_region_lv 46 (fun _ => [(bS, B64 (bdig (two R S)), 24), (bA, B32 (bdig p), 22)]) [.v (.slice (some ⟨bS, 0, none⟩) 32 64), .v (.pointer (some ⟨bS, 0, none⟩)), .v (.agg (B32 (bdig R))), .v (.slice (some ⟨bS, 32, none⟩) 32 32), .v (.pointer (some ⟨bS, 32, none⟩)), .v (.agg (B32 (bdig S))), .mk (B32 fun _ => 0) (B32 (bdig R)) 22 8, .mk (B32 fun _ => 0) (B32 (bdig S)) 22 9, .o, .o] hK (by kernel_rfl) (by kernel_rfl) (by kernel_rfl) (by rfl) ?_ ?_
  · exact .c (.p1 5 (.pointer (some ⟨bS, 0, none⟩))) <| .c (.p1 12 (.slice (some ⟨bS, 0, none⟩) 32 64)) <| .c (.x [(13, .pointer (some ⟨bS, 0, none⟩))] fun _ _ _ _ _ hfx hkx hx => wp_load_mid 22 (.tmp 13) rfl bS 0 (hfx _ (.head _)) (B32 (bdig R)).toList _ (B64_lo2 lR.out (hkx.at bS (B64 (bdig (two R S))) 24 (.head _))) Tryz.underlying22 rfl (B32_len7 _) (hx _ _ rfl (Below.refl _ _))) <| .c (.p1 5 (.pointer (some ⟨bS, 0, none⟩))) <| .c (.p1 15 (.slice (some ⟨bS, 32, none⟩) 32 32)) <| .c (.x [(16, .pointer (some ⟨bS, 32, none⟩))] fun _ _ _ _ _ hfx hkx hx => wp_load_mid 22 (.tmp 16) rfl bS 32 (hfx _ (.head _)) (B32 (bdig S)).toList _ (B64_hi2 lR.out (hkx.at bS (B64 (bdig (two R S))) 24 (.head _))) Tryz.underlying22 rfl (B32_len7 _) (hx _ _ rfl (Below.refl _ _))) <| .c (.al hz) <| .c (.al hz) <| .c (.st 6 (B32_info _) (B32_one _)) <| .c (.st 7 (B32_info _) (B32_one _)) .nil
  intro vs V1 hJ hf
  obtain ⟨g2, hgg2⟩ := hf 6 _ _ rfl rfl
  obtain ⟨le0, apg2, owng2⟩ := hJ.got 6 hgg2
  have le_g2 := show Hid _ from le0
  clear le0
  obtain ⟨g3, hgg3⟩ := hf 7 _ _ rfl rfl
  obtain ⟨le0, apg3, owng3⟩ := hJ.got 7 hgg3
  have le_g3 := show Hid _ from le0
  clear le0
  have ne_g2_g3 := hJ.apart 6 7 hgg2 hgg3
  have ne_bS_g2 : Hid (bS ≠ g2) := apg2 (bS, B64 (bdig (two R S)), 24) (.head _)
  have ne_bA_g2 : Hid (bA ≠ g2) := apg2 (bA, B32 (bdig p), 22) (.tail _ (.head _))
  have ne_bS_g3 : Hid (bS ≠ g3) := apg3 (bS, B64 (bdig (two R S)), 24) (.head _)
  have ne_bA_g3 : Hid (bA ≠ g3) := apg3 (bA, B32 (bdig p), 22) (.tail _ (.head _))
  have hK : Kp [(g3, B32 (bdig S), 22), (g2, B32 (bdig R), 22), (bS, B64 (bdig (two R S)), 24), (bA, B32 (bdig p), 22)] w V1 := ((hJ.1.cons owng2).cons owng3)
  simp only [putL, Lv.val, Nat.zero_add, Nat.reduceAdd, hgg2, hgg3, Act.put, List.setIfInBounds_toArray, List.set_cons_succ, List.set_cons_zero]
  clear hJ hf hgg2 hgg3 apg2 apg3 owng2 owng3
  go_wp2_with (refine wpList_load_own (by rfl) 22 (.tmp 8) (by rfl) g3 (by rfl) (B32 (bdig S)) _ (hK.at g3 (B32 (bdig S)) 22 (.head _)) Tryz.underlying22 (by rfl) (B32_info _) ?_)
  refine (F.scheckA lS.out hS.out _ (F.keep _ _ hT hK.2)).mono ?_
  rintro e V4 ⟨rfl, bw⟩
  have hK := hK.below bw
  clear bw
  cases b0
  · go_wp2_with fail
    go_ret
    exact ⟨by first | rfl | (rw [h0.out (by simp)]; rfl), hK.2⟩
  go_upto_region 4 with fail
  refine wp_region_lv 46 (fun _ => [(g3, B32 (bdig S), 22), (g2, B32 (bdig R), 22), (bS, B64 (bdig (two R S)), 24), (bA, B32 (bdig p), 22)]) [.v (.agg (B32 (bdig R))), .v (.agg (B32 (bdig p))), .v (.slice ta m.length tc), .v (.agg (B32 (bdig k))), .v (.agg (B32 (bdig p))), .v (.tuple #[.agg (B32 f), .int .i64 (e1)]), .v (.tuple #[.agg (B32 f), .int .i64 (e1)]), .v (.agg (B32 f)), .v (.int .i64 (e1)), .mk (B32 fun _ => 0) (B32 f) 22 10, .o, .v (.int .i64 (e1))] hK (by kernel_rfl) (by kernel_rfl) (by kernel_rfl) (by rfl) ?_ ?_
  · exact .c (.ld g2 (fun _ => .tail _ (.head _)) Tryz.underlying22 rfl (B32_info _)) <| .c (.ld bA (fun _ => .tail _ (.tail _ (.tail _ (.head _)))) Tryz.underlying22 rfl (B32_info _)) <| .c (.p1 1 (.slice ta m.length tc)) <| .c (.ca fun _ _ hkx => bound_at F Hk hl _ (F.keep _ _ hT hkx.2) (hm.below hkx.2)) <| .c (.ld bA (fun _ => .tail _ (.tail _ (.tail _ (.head _)))) Tryz.underlying22 rfl (B32_info _)) <| .c (.ca fun _ _ hkx => hM.out _ (F.keep _ _ hT hkx.2)) <| .c (.p1 27 (.tuple #[.agg (B32 f), .int .i64 (e1)])) <| .c (.p1 21 (.tuple #[.agg (B32 f), .int .i64 (e1)])) <| .c (.p1 21 (.tuple #[.agg (B32 f), .int .i64 (e1)])) <| .c (.al hz) <| .c (.st 9 (B32_info _) (B32_one _)) <| .c (.p1 29 (.int .i64 (e1))) .nil
  intro vs V5 hJ hf
  obtain ⟨g6, hgg6⟩ := hf 9 _ _ rfl rfl
  obtain ⟨le0, apg6, owng6⟩ := hJ.got 9 hgg6
  have le_g6 := show Hid _ from le0
  clear le0
  have ne_g3_g6 : Hid (g3 ≠ g6) := apg6 (g3, B32 (bdig S), 22) (.head _)
  have ne_g2_g6 : Hid (g2 ≠ g6) := apg6 (g2, B32 (bdig R), 22) (.tail _ (.head _))
  have ne_bS_g6 : Hid (bS ≠ g6) := apg6 (bS, B64 (bdig (two R S)), 24) (.tail _ (.tail _ (.head _)))
  have ne_bA_g6 : Hid (bA ≠ g6) := apg6 (bA, B32 (bdig p), 22) (.tail _ (.tail _ (.tail _ (.head _))))
  have hK : Kp [(g6, B32 f, 22), (g3, B32 (bdig S), 22), (g2, B32 (bdig R), 22), (bS, B64 (bdig (two R S)), 24), (bA, B32 (bdig p), 22)] w V5 := (hJ.1.cons owng6)
  simp only [putL, Lv.val, Nat.zero_add, Nat.reduceAdd, hgg6, Act.put, List.setIfInBounds_toArray, List.set_cons_succ, List.set_cons_zero]
  clear hJ hf hgg6 apg6 owng6
  rcases h1.out with ⟨rfl, hv⟩ | ⟨rfl, h2⟩
  · replace hv := show Hid _ from hv
    go_wp2
    go_ret
    exact ⟨by first | rfl | (rw [hv.out]; rfl), hK.2⟩
  replace h2 := show Hid _ from h2
  go_upto_region 7 with fail
  go_wp2_with (first
    | refine wpList_load_own (by rfl) 22 (.tmp 7) (by rfl) g2 (by rfl) (B32 (bdig R)) _ (hK.at g2 (B32 (bdig R)) 22 (.tail _ (.tail _ (.head _)))) Tryz.underlying22 (by rfl) (B32_info _) ?_
    | refine wpList_load_own (by rfl) 22 (.tmp 9) (by rfl) g6 (by rfl) (B32 f) _ (hK.at g6 (B32 f) 22 (.head _)) Tryz.underlying22 (by rfl) (B32_info _) ?_)
  refine (hA.out (by simp) _ (F.keep _ _ hT hK.2)).mono ?_
  rintro e V7 ⟨rfl, bw⟩
  have hK := hK.below bw
  clear bw
  go_upto_region 8 with (refine wpList_store_new (by rfl) 22 (.tmp 11) (.tmp 36) (by rfl) _ (B32 g) (by rfl) (by rfl) (B32_info _) (B32_sizes _ _) (B32_one _) (by rfl) ?_)
  have lt_g6 := (hK.at g6 (B32 f) 22 (.head _)).lt
  have lt_g3 := (hK.at g3 (B32 (bdig S)) 22 (.tail _ (.head _))).lt
  have lt_g2 := (hK.at g2 (B32 (bdig R)) 22 (.tail _ (.tail _ (.head _)))).lt
  have lt_bS := (hK.at bS (B64 (bdig (two R S))) 24 (.tail _ (.tail _ (.tail _ (.head _))))).lt
  have lt_bA := (hK.at bA (B32 (bdig p)) 22 (.tail _ (.tail _ (.tail _ (.tail _ (.head _)))))).lt
  have le_b8 := show Hid _ from hK.2.size
  have hK := hK.alloc (B32 g) 22
  generalize V7.alloc (.cells (B32 g) 22) = V9 at *
  obtain ⟨b8, Hb8⟩ : ∃ b, Hid (V7.heap.size = b) := ⟨_, rfl⟩
  have ne_g6_b8 : Hid (g6 ≠ b8) := by show _ ≠ _; rw [← Hb8.out]; exact Nat.ne_of_lt lt_g6
  have ne_g3_b8 : Hid (g3 ≠ b8) := by show _ ≠ _; rw [← Hb8.out]; exact Nat.ne_of_lt lt_g3
  have ne_g2_b8 : Hid (g2 ≠ b8) := by show _ ≠ _; rw [← Hb8.out]; exact Nat.ne_of_lt lt_g2
  have ne_bS_b8 : Hid (bS ≠ b8) := by show _ ≠ _; rw [← Hb8.out]; exact Nat.ne_of_lt lt_bS
  have ne_bA_b8 : Hid (bA ≠ b8) := by show _ ≠ _; rw [← Hb8.out]; exact Nat.ne_of_lt lt_bA
  have le_b8 : Hid (w.heap.size ≤ b8) := by show _ ≤ _; rw [← Hb8.out]; exact le_b8.out
  rw [Hb8.out] at hK ⊢
  clear lt_g6 lt_g3 lt_g2 lt_bS lt_bA
  rcases h2.out with ⟨rfl, hv⟩ | ⟨rfl, hv⟩
  · replace hv := show Hid _ from hv
    refine wp_region_lv 46 (fun _ => [(b8, B32 g, 22), (g6, B32 f, 22), (g3, B32 (bdig S), 22), (g2, B32 (bdig R), 22), (bS, B64 (bdig (two R S)), 24), (bA, B32 (bdig p), 22)]) [.v (.int .i64 (1)), .v (.bool false), .v (.bool false), .v undef, .v undef, .v undef, .v undef, .v (.bool false), .v (.bool false)] hK (by kernel_rfl) (by kernel_rfl) (by kernel_rfl) (by rfl) ?_ ?_
    · exact .c (.p1 10 (.int .i64 (1))) <| .c (.p1 38 (.int .i64 (1))) <| .c (.p1 39 (.bool false)) <| .c .ps <| .c .ps <| .c .ps <| .c .ps <| .c (.p2 40 (.bool false) 44 (undef)) <| .c (.p1 45 (.bool false)) .nil
    intro _ V10 hJ _
    have hK : Kp [(b8, B32 g, 22), (g6, B32 f, 22), (g3, B32 (bdig S), 22), (g2, B32 (bdig R), 22), (bS, B64 (bdig (two R S)), 24), (bA, B32 (bdig p), 22)] w V10 := hJ.1
    clear hJ
    simp only [putL, Lv.val, Act.put, List.setIfInBounds_toArray, List.set_cons_succ, List.set_cons_zero]
    go_wp2
    go_ret
    exact ⟨by first | rfl | (rw [hv.out]; rfl), hK.2⟩
  · replace hv := show Hid _ from hv
    refine wp_region_lv 46 (fun _ => [(b8, B32 g, 22), (g6, B32 f, 22), (g3, B32 (bdig S), 22), (g2, B32 (bdig R), 22), (bS, B64 (bdig (two R S)), 24), (bA, B32 (bdig p), 22)]) [.v (.int .i64 (0)), .v (.bool true), .v (.bool true), .v (.agg (B32 g)), .v (.agg (B32 (bdig S))), .v (.agg (B32 (bdig t))), .v (.bool v0), .v (.bool v0), .v (.bool v0)] hK (by kernel_rfl) (by kernel_rfl) (by kernel_rfl) (by rfl) ?_ ?_
    · exact .c (.p1 10 (.int .i64 (0))) <| .c (.p1 38 (.int .i64 (0))) <| .c (.p1 39 (.bool true)) <| .c (.ld b8 (fun _ => .head _) Tryz.underlying22 rfl (B32_info _)) <| .c (.ld g3 (fun _ => .tail _ (.tail _ (.head _))) Tryz.underlying22 rfl (B32_info _)) <| .c (.ca fun _ _ hkx => F.baseA lS.out Ht.out _ (F.keep _ _ hT hkx.2)) <| .c (.p2 41 (.agg (B32 g)) 43 (.agg (B32 (bdig t)))) <| .c (.p2 40 (.bool true) 44 (.bool v0)) <| .c (.p1 45 (.bool v0)) .nil
    intro _ V10 hJ _
    have hK : Kp [(b8, B32 g, 22), (g6, B32 f, 22), (g3, B32 (bdig S), 22), (g2, B32 (bdig R), 22), (bS, B64 (bdig (two R S)), 24), (bA, B32 (bdig p), 22)] w V10 := hJ.1
    clear hJ
    simp only [putL, Lv.val, Act.put, List.setIfInBounds_toArray, List.set_cons_succ, List.set_cons_zero]
    go_wp2
    go_ret
    exact ⟨by first | rfl | (rw [hv.out (by simp)]; rfl), hK.2⟩
end Go.Proofs.YtgibllaifnnfkaaGreatDoor
namespace Go.Proofs.YtgibllaifnnfkaaGreatDoor
open Go Go.RowKit
theorem enc_R7 (P : Pt E5) : enc P < R256 := by rw [R256_HH]; exact enc_lt P
def numOf (n : Nat) : Nat := clamp (dn (by32 n) % R256)
def preOf (n : Nat) : Nat := dn (by32 n) / R256
def pubOf (n : Nat) : Nat := enc (Pt.times (numOf n) BP)
def bindOf (R p : Nat) (m : List Int) : Nat := dn (by32 R ++ (by32 p ++ m)) % LL
def onceOf (n : Nat) (m : List Int) : Nat := dn (by32 (preOf n) ++ m) % LL
def rOf (n : Nat) (m : List Int) : Nat := enc (Pt.times (onceOf n m) BP)
def sOf (n : Nat) (m : List Int) : Nat := (bindOf (rOf n m) (pubOf n) m * numOf n + onceOf n m) % LL
def sigOf (n : Nat) (m : List Int) : Nat := two (rOf n m) (sOf n m)
theorem pubOf_lt (n : Nat) : pubOf n < R256 := enc_R7 _
theorem rOf_lt (n : Nat) (m : List Int) : rOf n m < R256 := enc_R7 _
theorem sOf_lt (n : Nat) (m : List Int) : sOf n m < LL := Nat.mod_lt _ LL_pos
theorem sOf_lt2 (n : Nat) (m : List Int) : sOf n m < R256 := Nat.lt_trans (sOf_lt n m) LL_lt
def Signed (p : Nat) (m : List Int) (R S : Nat) : Prop := S < LL ∧ ∃ P Q : Pt E5, enc P = p ∧ enc Q = R ∧ enc (Q.add (Pt.times (bindOf R p m) P)) = enc (Pt.times S BP)
noncomputable def signedB (p : Nat) (m : List Int) (R S : Nat) : Bool := @decide (Signed p m R S) (Classical.propDecidable _)
theorem signedB_true {p : Nat} {m : List Int} {R S : Nat} : signedB p m R S = true ↔ Signed p m R S := by unfold signedB; exact @decide_eq_true_iff _ (Classical.propDecidable _)
theorem signedB_false {p : Nat} {m : List Int} {R S : Nat} (h : ¬ Signed p m R S) : signedB p m R S = false := by unfold signedB; exact @decide_eq_false _ (Classical.propDecidable _) h
theorem signedB_pts {P Q : Pt E5} {p : Nat} {m : List Int} {R S : Nat} (hS : S < LL) (hP : enc P = p) (hQ : enc Q = R) : signedB p m R S = decide (enc (Q.add (Pt.times (bindOf R p m) P)) = enc (Pt.times S BP)) := by
  by_cases h : enc (Q.add (Pt.times (bindOf R p m) P)) = enc (Pt.times S BP)
  · rw [decide_eq_true h]; exact signedB_true.2 ⟨hS, P, Q, hP, hQ, h⟩
  · rw [decide_eq_false h]
    refine signedB_false fun ⟨_, P', Q', hP', hQ', h'⟩ => h ?_
    rw [enc_inj (hP.trans hP'.symm), enc_inj (hQ.trans hQ'.symm)]; exact h'
theorem signedB_low {p : Nat} {m : List Int} {R S : Nat} (h : decide (S < LL) = false) : signedB p m R S = false := signedB_false fun hs => by
  rw [decide_eq_true hs.1] at h; cases h
theorem signedB_nop {p : Nat} {m : List Int} {R S : Nat} (h : ∀ P : Pt E5, enc P ≠ p) : signedB p m R S = false := signedB_false fun ⟨_, P, _, hP, _⟩ => h P hP
theorem signedB_nor {p : Nat} {m : List Int} {R S : Nat} (h : ∀ Q : Pt E5, enc Q ≠ R) : signedB p m R S = false := signedB_false fun ⟨_, _, Q, _, hQ, _⟩ => h Q hQ
theorem sign_eqn (n : Nat) (m : List Int) : (Pt.times (onceOf n m) BP).add (Pt.times (bindOf (rOf n m) (pubOf n) m) (Pt.times (numOf n) BP)) = Pt.times (sOf n m) BP := by
  unfold sOf
  generalize bindOf (rOf n m) (pubOf n) m = k
  generalize numOf n = c
  generalize onceOf n m = r
  rw [Pt.times_mod base_L, Pt.times_add, Nat.mul_comm, Pt.times_mul, Pt.add_comm]
theorem sign_signed (n : Nat) (m : List Int) : signedB (pubOf n) m (rOf n m) (sOf n m) = true :=
  signedB_true.2 ⟨sOf_lt n m, Pt.times (numOf n) BP, Pt.times (onceOf n m) BP, rfl, rfl, by rw [sign_eqn]⟩
section
variable {T : World → Prop} (F : Low T)
include F
theorem public_is (n : Nat) (w : World) (hT : T w) : Calls Tryz.prog 14 #[.agg (B32 (bdig n))] w fun x w' => x = .returned (.agg (B32 (bdig (pubOf n)))) ∧ Below w.heap.size w w' :=
  public_at F (lo := dn (by32 n) % R256) (hi := preOf n) (c := numOf n) (two_parts _).symm (lo_lt _) rfl rfl w hT
theorem sign_is (n : Nat) {ta : Option Addr} {tc : Nat} {m : List Int} (hl : m.length ≤ 1000) (w : World) (hT : T w) (hm : Txt w ta tc m) : Calls Tryz.prog 16 #[.agg (B32 (bdig n)), .slice ta m.length tc] w fun x w' => x = .returned (.agg (B64 (bdig (sigOf n m)))) ∧ Below w.heap.size w w' :=
  sign_at F (lo := dn (by32 n) % R256) (hi := preOf n) (c := numOf n) (y := pubOf n) (r := onceOf n m) (R := rOf n m) (k := bindOf (rOf n m) (pubOf n) m) (S := sOf n m) (two_parts _).symm (lo_lt _) rfl rfl rfl rfl rfl rfl hl w hT hm
theorem verify_is {p R S : Nat} {ta : Option Addr} {tc : Nat} {m : List Int} (lp : p < R256) (lR : R < R256) (lS : S < R256) (hl : m.length ≤ 1000) (w : World) (hT : T w) (hm : Txt w ta tc m) : Calls Tryz.prog 18 #[.agg (B32 (bdig p)), .slice ta m.length tc, .agg (B64 (bdig (two R S)))] w fun x w' => x = .returned (.bool (signedB p m R S)) ∧ Below w.heap.size w w' := by
  have lk : bindOf R p m < R256 := lt_of_modL
  have z0 : B32 (fun _ => 0) = B32 (bdig 0) := B32_ext fun i _ => (bdig_zero i).symm
  have lt := enc_R7 (Pt.times S BP)
  by_cases hp : ∃ P : Pt E5, enc P = p
  · obtain ⟨P, rfl⟩ := hp
    by_cases hR : ∃ Q : Pt E5, enc Q = R
    · obtain ⟨Q, rfl⟩ := hR
      refine verify_gen F lR lS rfl rfl (fun w hT => F.mul _ lk P w hT) (fun _ w hT => F.add Q _ w hT) rfl (fun w => B32_eq _ _ (enc_R7 _) lt w) (fun h => signedB_low h) (.inr ⟨rfl, .inr ⟨rfl, fun h => ?_⟩⟩) hl w hT hm
      exact (signedB_pts (of_decide_eq_true h) rfl rfl).symm
    · refine verify_gen F lR lS rfl rfl (fun w hT => F.mul _ lk P w hT) (fun _ w hT => F.add_not R _ lR (enc_R7 _) (.inl fun Q e => hR ⟨Q, e⟩) w hT) rfl (fun w => by rw [z0]; exact B32_eq _ _ (by decide) lt w) (fun h => signedB_low h) (.inr ⟨rfl, .inl ⟨rfl, signedB_nor fun Q e => hR ⟨Q, e⟩⟩⟩) hl w hT hm
  · have hn : ∀ P : Pt E5, enc P ≠ p := fun P e => hp ⟨P, e⟩
    exact verify_gen F (f := fun _ => 0) (g := bdig 0) (e1 := 1) (e2 := 0) lR lS rfl rfl (fun w hT => F.mul_not _ p lk lp hn w hT) (fun h => by cases h) rfl (fun w => B32_eq _ _ (by decide) lt w) (fun h => signedB_low h) (.inl ⟨rfl, signedB_nop hn⟩) hl w hT hm
end
end Go.Proofs.YtgibllaifnnfkaaGreatDoor
namespace Go.Proofs.YtgibllaifnnfkaaGreatDoor
open Go Go.RowKit
def opub (n : Nat) : Nat := hn (1 :: by32 n)
def oR (p : Nat) (m : List Int) : Nat := hn (2 :: (by32 p ++ m))
def oS (p : Nat) (m : List Int) : Nat := hn (3 :: (by32 p ++ m))
noncomputable def pubK (kind : Int) (n : Nat) : Nat := if kind = 1 then pubOf n else opub n
noncomputable def sgR (kind : Int) (n : Nat) (m : List Int) : Nat := if kind = 1 then rOf n m else oR (opub n) m
noncomputable def sgS (kind : Int) (n : Nat) (m : List Int) : Nat := if kind = 1 then sOf n m else oS (opub n) m
noncomputable def verK (kind : Int) (p : Nat) (m : List Int) (R S : Nat) : Bool := if kind = 1 then signedB p m R S else if kind = 2 then decide (two R S = two (oR p m) (oS p m)) else false
theorem opub_lt (n : Nat) : opub n < R256 := hn_lt _
theorem oR_lt (p : Nat) (m : List Int) : oR p m < R256 := hn_lt _
theorem oS_lt (p : Nat) (m : List Int) : oS p m < R256 := hn_lt _
theorem pubK_lt {kind : Int} (h : kind = 1 ∨ kind = 2) (n : Nat) : pubK kind n < R256 := by
  rcases h with rfl | rfl
  · rw [show pubK 1 n = pubOf n from if_pos rfl]
    exact pubOf_lt n
  · rw [show pubK 2 n = opub n from if_neg (by decide)]
    exact opub_lt n
theorem sgR_lt {kind : Int} (h : kind = 1 ∨ kind = 2) (n : Nat) (m : List Int) : sgR kind n m < R256 := by
  rcases h with rfl | rfl
  · rw [show sgR 1 n m = rOf n m from if_pos rfl]
    exact rOf_lt n m
  · rw [show sgR 2 n m = oR (opub n) m from if_neg (by decide)]
    exact oR_lt _ _
theorem sgS_lt {kind : Int} (h : kind = 1 ∨ kind = 2) (n : Nat) (m : List Int) : sgS kind n m < R256 := by
  rcases h with rfl | rfl
  · rw [show sgS 1 n m = sOf n m from if_pos rfl]
    exact sOf_lt2 n m
  · rw [show sgS 2 n m = oS (opub n) m from if_neg (by decide)]
    exact oS_lt _ _
theorem verK_own {kind : Int} (h : kind = 1 ∨ kind = 2) (n : Nat) (m : List Int) : verK kind (pubK kind n) m (sgR kind n m) (sgS kind n m) = true := by
  rcases h with rfl | rfl
  · rw [show pubK 1 n = pubOf n from if_pos rfl, show sgR 1 n m = rOf n m from if_pos rfl, show sgS 1 n m = sOf n m from if_pos rfl, show verK 1 (pubOf n) m (rOf n m) (sOf n m) = signedB (pubOf n) m (rOf n m) (sOf n m) from if_pos rfl]
    exact sign_signed n m
  · rw [show pubK 2 n = opub n from if_neg (by decide), show sgR 2 n m = oR (opub n) m from if_neg (by decide), show sgS 2 n m = oS (opub n) m from if_neg (by decide)]
    unfold verK
    rw [if_neg (by decide), if_pos rfl]
    exact decide_eq_true rfl
theorem infoE5 : (Tryz.prog.info? 5).map (fun i => (i.size, i.zero.isSome)) = some (1, true) := by kernel_rfl
theorem infoE23 : (Tryz.prog.info? 23).map (fun i => (i.size, i.zero.isSome)) = some (1, true) := by kernel_rfl
end Go.Proofs.YtgibllaifnnfkaaGreatDoor
namespace Go.Proofs.YtgibllaifnnfkaaGreatDoor
open Go Go.RowKit
structure Ste (T : World → Prop) : Prop where
  keep : ∀ w w', T w → Below w.heap.size w w' → T w'
  pub : ∀ (kind : Int), kind = 1 ∨ kind = 2 → ∀ (n : Nat) w, T w → Calls Tryz.prog 5 #[.int .i64 kind, .agg (B32 (bdig n))] w fun x w' => x = .returned (.tuple #[.agg (B32 (bdig (pubK kind n))), .int .i64 0]) ∧ Below w.heap.size w w'
  pub_no : ∀ (kind : Int), kind ≠ 1 → kind ≠ 2 → ∀ (n : Nat) w, T w → Calls Tryz.prog 5 #[.int .i64 kind, .agg (B32 (bdig n))] w fun x w' => x = .returned (.tuple #[.agg (B32 fun _ => 0), .int .i64 1]) ∧ Below w.heap.size w w'
  sgn : ∀ (kind : Int), kind = 1 ∨ kind = 2 → ∀ (n : Nat) (ta : Option Addr) (tc : Nat) (m : List Int), m.length ≤ 1000 → ∀ w, T w → Txt w ta tc m → Calls Tryz.prog 6 #[.int .i64 kind, .agg (B32 (bdig n)), .slice ta m.length tc] w fun x w' => x = .returned (.tuple #[.agg (B64 (bdig (two (sgR kind n m) (sgS kind n m)))), .int .i64 0]) ∧ Below w.heap.size w w'
  sgn_no : ∀ (kind : Int), kind ≠ 1 → kind ≠ 2 → ∀ (n : Nat) (ta : Option Addr) (tc : Nat) (m : List Int), m.length ≤ 1000 → ∀ w, T w → Txt w ta tc m → Calls Tryz.prog 6 #[.int .i64 kind, .agg (B32 (bdig n)), .slice ta m.length tc] w fun x w' => x = .returned (.tuple #[.agg (B64 fun _ => 0), .int .i64 1]) ∧ Below w.heap.size w w'
  ver : ∀ (kind : Int) (p R S : Nat) (ta : Option Addr) (tc : Nat) (m : List Int), p < R256 → R < R256 → S < R256 → m.length ≤ 1000 → ∀ w, T w → Txt w ta tc m → Calls Tryz.prog 7 #[.int .i64 kind, .agg (B32 (bdig p)), .slice ta m.length tc, .agg (B64 (bdig (two R S)))] w fun x w' => x = .returned (.bool (verK kind p m R S)) ∧ Below w.heap.size w w'
end Go.Proofs.YtgibllaifnnfkaaGreatDoor
namespace Go.Proofs.YtgibllaifnnfkaaGreatDoor.H
open Go.RowKit
theorem upTo_bys {ms : List (List Int)} (h : ∀ m ∈ ms, Bys m) (k : Nat) : Bys (upTo ms k) := fun x hx => by
  obtain ⟨m, hm, hxm⟩ := List.mem_flatten.1 hx
  exact h m (List.mem_of_mem_take hm) x hxm
theorem rows_bys {w : World} {a : Option Addr} {len cap : Nat} {ms : List (List Int)} (h : RowsV w a len cap ms) : ∀ m ∈ ms, Bys m := fun m hm => by
  obtain ⟨i, hi⟩ := List.mem_iff_getElem?.1 hm
  have hlt := (List.getElem?_eq_some_iff.1 hi).1
  obtain ⟨b, off, e, hr⟩ := h.2.2.2 (by rw [h.1]; omega)
  obtain ⟨a', cap', -, hv, -⟩ := hr i m hi
  exact hv.2.2.2.1
theorem OwnBytes.none {w : World} {base n cap : Nat} {a : Option Addr} {xs : List Int} (h : OwnBytes w base (.slice a n cap) xs) : a = none → cap = 0 := fun e => by
  obtain ⟨h1, ⟨h2, h3⟩ | ⟨g, c, cur, h2, _⟩⟩ := h
  · simp at h2; exact h2.2.2
  · simp [e] at h2
set_option maxRecDepth 100000 in
set_option maxHeartbeats 2000000 in
theorem join_own (a : Option Addr) (len cap : Nat) (ms : List (List Int)) (w : World) (hR : RowsV w a len cap ms) (hn : ms.flatten.length ≤ 1000000) :
    Calls Tryz.prog 23 #[.slice a len cap] w fun e w' => ∃ a' cap', e = .returned (.slice a' ms.flatten.length cap') ∧ OwnBytes w' w.heap.size (.slice a' ms.flatten.length cap') ms.flatten ∧ BytesV w' a' ms.flatten.length cap' ms.flatten ∧ (a' = none → cap' = 0) ∧ Below w.heap.size w w' := by
  have hlM : len ≤ maxLen := Nat.le_trans hR.2.1 hR.2.2.1
  have hlm : (len : Int) ≤ 9223372036854775807 := by unfold maxLen at hlM; omega
  have hby := show Hid _ from rows_bys hR
  obtain ⟨l, Hl⟩ : ∃ l, Hid (ms.flatten = l) := ⟨_, rfl⟩
  have hul := fun k => upTo_le ms k
  rw [Hl.out] at hn hul ⊢
  have hul := show Hid _ from hul
  go_enter Tryz.func23, Tryz.ntmps23
  go_wp2_with fail
  go_loopw [3, 4] (fun v i wr => ∃ (k : Nat) (a' : Option Addr) (cap' : Nat), k ≤ len ∧ i = .int .i64 (k : Int) ∧ v = .slice a' (upTo ms k).length cap' ∧ OwnBytes wr w.heap.size (.slice a' (upTo ms k).length cap') (upTo ms k) ∧ Below w.heap.size w wr) (fun _ i _ => len - (intOf i).toNat)
  case atStart => exact ⟨0, none, 0, Nat.zero_le _, rfl, rfl, ownBytes_nil _ _, Below.refl _ _⟩
  case round =>
    obtain ⟨k, a1, c1, hk, rfl, rfl, hO, hb⟩ := hrel
    have bX := upTo_bys hby.out k
    by_cases hkl : k < len
    · have hki : (k : Int) < (len : Int) := by omega
      have hk0 : (0 : Int) ≤ (k : Int) := by omega
      obtain ⟨b, off, m, a', cap', rfl, hm, hc, hv, hnn⟩ := hR.at k hkl
      have hc' : wr.cell? ⟨b, off + k, none⟩ = some (.slice a' m.length cap') := by rw [hb.cell (World.block_lt_of_cell? w _ hc)]; exact hc
      have hus := upTo_succ ms k m hm
      have hul := hul.out (k + 1)
      rw [hus, List.length_append] at hul
      have HU := show Hid _ from hus
      have hv := hv.below hb
      clear hus hc hm
      obtain ⟨X, HX⟩ : ∃ X, Hid (upTo ms k = X) := ⟨_, rfl⟩
      rw [HX.out] at hO hul bX HU ⊢
      go_wp2_with (at_builtin; refine wpList_append_bytes (by rfl) (.tmp 11) (.tmp 15) (by rfl) w.heap.size _ X (by rfl) hO bX a' m.length cap' m (by rfl) hv hnn (by omega) hb.size ?_; intro a3 cap3 w3 hO3 hg3 hV3)
      go_roundw
      case rel =>
        have hb3 : Below w.heap.size w w3 := hb.grown hg3 hb.size (fun g e => hO.base_le e)
        refine ⟨k + 1, a3, cap3, by omega, by go_num, ?_, ?_, hb3⟩
        · rw [HU.out, List.length_append]
        · rw [HU.out, List.length_append]; exact hO3
      case measure => simp [intOf]; omega
    · have hki : ¬ (k : Int) < (len : Int) := by omega
      have hall : upTo ms k = l := (upTo_all ms k (by have := hR.1; omega)).trans Hl.out
      rw [hall] at hO bX
      rw [hall]
      obtain ⟨a', cap', e, hV⟩ := hO.form bX
      obtain ⟨e1, e2, e3⟩ : a1 = a' ∧ l.length = l.length ∧ c1 = cap' := by simpa using e
      subst e1 e3
      go_wp2_with fail
      go_ret
      exact ⟨_, _, rfl, hO, hV, hO.none, hb⟩
theorem join_any (a : Option Addr) (len cap : Nat) (ms : List (List Int)) (w : World) (hR : RowsV w a len cap ms) (hn : ms.flatten.length ≤ 1000000) :
    Calls Tryz.prog 23 #[.slice a len cap] w fun e w' => ∃ a' cap', e = .returned (.slice a' ms.flatten.length cap') ∧ BytesV w' a' ms.flatten.length cap' ms.flatten ∧ (a' = none → cap' = 0) ∧ Below w.heap.size w w' :=
  (join_own a len cap ms w hR hn).mono fun _ _ ⟨a', cap', h1, _, h2⟩ => ⟨a', cap', h1, h2⟩
end Go.Proofs.YtgibllaifnnfkaaGreatDoor.H
namespace Go.Proofs.YtgibllaifnnfkaaGreatDoor
open Go Go.RowKit
theorem pjoin_co {ms : List (List Int)} {l : List Int} (hl : ms.flatten = l) (hn : l.length ≤ 1000000) (w : World) {a : Option Addr} {len cap : Nat} (hR : H.RowsV w a len cap ms) :
    Calls Tryz.prog 23 #[.slice a len cap] w fun e w' => ∃ v, e = .returned v ∧ (txR l).r w' v ∧ (∀ g ∈ blks v, w.heap.size ≤ g ∧ g < w'.heap.size) ∧ Below w.heap.size w w' := by
  subst hl
  refine (H.join_own a len cap ms w hR hn).mono fun e w' ⟨a', c', h1, h2, h3, _, h5⟩ => ?_
  obtain ⟨k1, k2⟩ := tx_own h2 h3.2.2.2.1
  exact ⟨_, h1, k1, k2, h5⟩
end Go.Proofs.YtgibllaifnnfkaaGreatDoor
namespace Go.Proofs.YtgibllaifnnfkaaGreatDoor.J
open Go.RowKit
def be8 (n : Int) : List Int := be4 (n / 4294967296) ++ be4 (n % 4294967296)
theorem be8_at (n : Int) (h0 : 0 ≤ n) (h1 : n < 18446744073709551616) (k : Nat) (hk : k < 8) : (be8 n).getD k 0 = n / 2 ^ (8 * (7 - k)) % 256 := by
  rcases k with _ | _ | _ | _ | _ | _ | _ | _ | k
  all_goals first | (simp [be8, be4]; done) | (simp [be8, be4]; omega) | omega
theorem be8_take (n : Int) (k : Nat) (hk : k < 8) : (be8 n).take (k + 1) = (be8 n).take k ++ [(be8 n).getD k 0] := by
  have h : k < (be8 n).length := hk
  rw [List.take_succ_eq_append_getElem h]
  simp [List.getD, h]
theorem bytesV_one (w : World) (x : Int) (h : 0 ≤ x ∧ x < 256) : BytesV (w.alloc (.cells #[.int .u8 x] 5)) (some ⟨w.heap.size, 0, none⟩) 1 1 [x] :=
  ⟨rfl, Nat.le_refl _, by decide, fun y hy => by simp at hy; omega, fun _ => ⟨_, _, rfl, fun j v hv => by
    rw [Nat.zero_add, cell_of_row _ w.heap.size j #[.int .u8 x] 5 (0, 0) (heap_alloc_last w _)]
    simpa [u8s] using hv⟩⟩
theorem alloc_below (w : World) (o : Obj) : Below w.heap.size w (w.alloc o) := (Below.refl _ _).alloc (Nat.le_refl _) _
set_option maxRecDepth 100000 in
set_option maxHeartbeats 2000000 in
theorem padded_any (a : Option Addr) (cap : Nat) (m : List Int) (w : World) (hm : BytesV w a m.length cap m) (hcap : a = none → cap = 0) (hl : m.length ≤ 1000000) :
    Calls Tryz.prog 43 #[.slice a m.length cap, .int .i64 64, .int .i64 8] w fun e w' => ∃ a' cap', e = .returned (.slice a' (m ++ padL m.length).length cap') ∧ BytesV w' a' (m ++ padL m.length).length cap' (m ++ padL m.length) ∧ Below w.heap.size w w' ∧ (∀ x, a' = some x → w.heap.size ≤ x.block) := by
  have bm : Bys m := hm.2.2.2.1
  go_enter Tryz.func43, Tryz.ntmps43
  go_upto_region 3 with (first
    | (at_builtin; refine wpList_append_bytes (by rfl) (.tmp 10) (.tmp 11) (by rfl) w.heap.size (.slice none 0 0) [] (by rfl) (ownBytes_nil _ _) (fun x hx => by simp at hx) a m.length cap m (by rfl) hm hcap (by simp; omega) (Nat.le_refl _) ?_; intro a1 cap1 w1 hO1 hg1 hV1; simp only [List.length_nil, Nat.zero_add, List.nil_append] at hO1 hV1)
    | (at_builtin; refine wpList_append_bytes (by rfl) (.tmp 12) (.tmp 13) (by rfl) w.heap.size _ _ (by rfl) (hO1.below (alloc_below _ _)) bm _ 1 1 [128] (by rfl) (bytesV_one _ 128 (by decide)) (fun h => by cases h) (by simp; omega) (by have := hg1.size; simp; omega) ?_; intro a2 cap2 w2 hO2 hg2 hV2))
  have hb2 : Below w.heap.size w w2 := by
    have h1 : Below w.heap.size w w1 := (Below.refl _ _).grown hg1 (Nat.le_refl _) (fun k e => by simp [Value.ownBlock] at e)
    have h2 := h1.alloc h1.size (.cells #[.int .u8 128] 5)
    exact h2.grown hg2 h2.size (fun g e => hO1.base_le e)
  clear hO1 hV1 hg1 hg2 hV2
  obtain ⟨z, Hz⟩ : ∃ z, Hid (z = noughts m.length) := ⟨_, rfl⟩
  have hz64 : z ≤ 63 := by rw [Hz.out]; unfold noughts; omega
  have hzw : (m.length + 1 + z + 8) % 64 = 0 := by rw [Hz.out]; unfold noughts; omega
  have hzl : ∀ j, j < z → (m.length + 1 + j + 8) % 64 ≠ 0 := fun j hj => by rw [Hz.out] at hj; unfold noughts at hj; omega
  have HZL := show Hid _ from hzl
  clear hzl
  go_loopw [7] (fun v wr => ∃ (j : Nat) (a' : Option Addr) (cap' : Nat), j ≤ z ∧ v = .slice a' (m.length + 1 + j) cap' ∧ OwnBytes wr w.heap.size (.slice a' (m.length + 1 + j) cap') (m ++ (128 :: List.replicate j 0)) ∧ Below w.heap.size w wr) (fun v _ => m.length + 100 - sliceLen v)
  case atStart => exact ⟨0, a2, cap2, Nat.zero_le _, rfl, hO2, hb2⟩
  case round =>
    clear hO2 hb2
    obtain ⟨j, a', cap', hj, rfl, hO, hb⟩ := hrel
    obtain ⟨q, Hq⟩ : ∃ q, Hid (q = m.length + 1 + j) := ⟨_, rfl⟩
    have hql : (q : Int) ≤ 2000000 := by rw [Hq.out]; omega
    have hqm : q ≤ m.length + 64 := by rw [Hq.out]; omega
    have hln : (m ++ (128 :: List.replicate j (0 : Int))).length = q := by rw [Hq.out]; simp; omega
    have bO : Bys (m ++ (128 :: List.replicate j (0 : Int))) := fun x hx => by
      rcases List.mem_append.1 hx with h | h
      · exact bm x h
      · simp at h; rcases h with rfl | ⟨_, rfl⟩ <;> omega
    rw [← Hq.out]
    rw [← Hq.out] at hO
    by_cases hlt : j < z
    · have hne : (((q : Int) + 8) % 64 == 0) = false := by
        have := HZL.out j hlt
        rw [← Hq.out] at this
        rw [beq_eq_false_iff_ne]; omega
      have hne' : (((q : Int) + 8) % 64 != 0) = true := by rw [bne, hne]; rfl
      go_wp2_with (at_builtin; refine wpList_append_bytes (by rfl) (.tmp 22) (.tmp 23) (by rfl) w.heap.size _ _ (by rfl) (hO.below (alloc_below _ _)) bO _ 1 1 [0] (by rfl) (bytesV_one _ 0 (by decide)) (fun h => by cases h) (by rw [hln]; simp; omega) (by have := hb.size; simp; omega) ?_; intro a3 cap3 w3 hO3 hg3 hV3)
      go_roundw
      case rel =>
        have hb3 : Below w.heap.size w w3 := by
          have h2 := hb.alloc hb.size (.cells #[.int .u8 0] 5)
          exact h2.grown hg3 h2.size (fun g e => hO.base_le e)
        have e1 : q + 1 = m.length + 1 + (j + 1) := by rw [Hq.out]; omega
        rw [hln] at hO3
        refine ⟨j + 1, a3, cap3, by omega, by rw [e1], ?_, hb3⟩
        rw [← e1, List.replicate_succ', ← List.cons_append, ← List.append_assoc]; exact hO3
      case measure => simp [sliceLen]; omega
    · have hjz : j = z := by omega
      have hne : (((q : Int) + 8) % 64 == 0) = true := by
        rw [beq_iff_eq, Hq.out]; omega
      have hne' : (((q : Int) + 8) % 64 != 0) = false := by rw [bne, hne]; rfl
      have HJ := show Hid _ from hjz
      clear hjz
      go_wp2_with fail
      obtain ⟨X, HX⟩ : ∃ X, Hid (X = m ++ (128 :: List.replicate j (0 : Int))) := ⟨_, rfl⟩
      rw [← HX.out] at hO hln bO
      clear hne hne'
      go_loopw [7, 9] (fun v i wr => ∃ (k : Nat) (a' : Option Addr) (cap' : Nat), k ≤ 8 ∧ i = .int .i64 (7 - (k : Int)) ∧ v = .slice a' (q + k) cap' ∧ OwnBytes wr w.heap.size (.slice a' (q + k) cap') (X ++ (be8 ((m.length : Int) * 8)).take k) ∧ Below w.heap.size w wr) (fun _ i _ => (intOf i + 1).toNat)
      case atStart => exact ⟨0, a', cap', by omega, rfl, rfl, by rw [List.take_zero, List.append_nil]; exact hO, hb⟩
      case round =>
        clear hO hb
        obtain ⟨k, a', cap', hk, rfl, rfl, hO, hb⟩ := hrel
        have hnn : (0 : Int) ≤ (m.length : Int) * 8 ∧ (m.length : Int) * 8 < 18446744073709551616 := by omega
        have hbl : (be8 ((m.length : Int) * 8)).length = 8 := rfl
        have hXk : (X ++ (be8 ((m.length : Int) * 8)).take k).length = q + k := by rw [List.length_append, hln, List.length_take, hbl, Nat.min_eq_left hk]
        have bX : Bys (X ++ (be8 ((m.length : Int) * 8)).take k) := fun x hx => by
          rcases List.mem_append.1 hx with h | h
          · exact bO x h
          · have h := List.mem_of_mem_take h
            rcases List.mem_append.1 h with h | h
            · exact be4_bys _ (by omega) (by omega) x h
            · exact be4_bys _ (by omega) (by omega) x h
        by_cases hlt : k < 8
        · obtain ⟨i, Hi, hi7⟩ : ∃ i : Nat, Hid (i + k = 7) ∧ i ≤ 7 := ⟨7 - k, show 7 - k + k = 7 by omega, by omega⟩
          have ei : (7 : Int) - (k : Int) = (i : Int) := by have := Hi.out; omega
          rw [ei]
          have EI := show Hid _ from ei
          clear ei
          have hi0 : (0 : Int) ≤ (i : Int) := by omega
          have hi7' : (i : Int) ≤ 7 := by omega
          have hbv : 0 ≤ (be8 ((m.length : Int) * 8)).getD k 0 ∧ (be8 ((m.length : Int) * 8)).getD k 0 < 256 := by
            rw [be8_at _ hnn.1 hnn.2 k hlt]; omega
          have hat : (m.length : Int) * 8 / 2 ^ (8 * i) % 256 = (be8 ((m.length : Int) * 8)).getD k 0 := by
            rw [be8_at _ hnn.1 hnn.2 k hlt, show 7 - k = i from by have := Hi.out; omega]
          have HAT := show Hid _ from hat
          clear hat
          go_upto_region 11 with fail
          have hxb : 0 ≤ (m.length : Int) * 8 / 2 ^ (8 * i) % 256 ∧ (m.length : Int) * 8 / 2 ^ (8 * i) % 256 < 256 := by rw [HAT.out]; exact hbv
          have HXB := show Hid _ from hxb
          clear hxb hbv
          go_wp2_with (at_builtin; refine wpList_append_bytes (by rfl) (.tmp 40) (.tmp 47) (by rfl) w.heap.size _ _ (by rfl) (hO.below (alloc_below _ _)) bX _ 1 1 [(m.length : Int) * 8 / 2 ^ (8 * i) % 256] (by rfl) (bytesV_one _ _ HXB.out) (fun h => by cases h) (by rw [hXk]; simp; omega) (by have := hb.size; simp; omega) ?_; intro a3 cap3 w3 hO3 hg3 hV3)
          go_roundw
          case rel =>
            have hb3 : Below w.heap.size w w3 := by
              have h2 := hb.alloc hb.size (.cells #[.int .u8 ((m.length : Int) * 8 / 2 ^ (8 * i) % 256)] 5)
              exact h2.grown hg3 h2.size (fun g e => hO.base_le e)
            rw [hXk, HAT.out] at hO3
            refine ⟨k + 1, a3, cap3, by omega, by have := Hi.out; congr 1; omega, by rw [Nat.add_assoc], ?_, hb3⟩
            rw [← Nat.add_assoc, be8_take _ _ hlt, ← List.append_assoc]; exact hO3
          case measure => simp [intOf]
        · have hk8 : k = 8 := by omega
          subst hk8
          have e8 : X ++ (be8 ((m.length : Int) * 8)).take 8 = m ++ padL m.length := by
            rw [HX.out, HJ.out, Hz.out, List.append_assoc]
            simp [padL, be8, be4]
          have HE := show Hid _ from e8
          rw [e8] at hO bX hXk
          clear e8
          have hi0 : ¬ (0 : Int) ≤ 7 - ((8 : Nat) : Int) := by omega
          obtain ⟨a9, cap9, hv9, hV9⟩ := hO.form bX
          simp only [Value.slice.injEq] at hv9
          obtain ⟨rfl, _, rfl⟩ := hv9
          have HXK := show Hid _ from hXk
          clear hXk
          go_wp2_with fail
          go_ret
          exact ⟨a', cap', rfl, by rw [← List.length_append]; exact hV9, hb, fun x hx => hO.base_le (by rw [hx]; rfl)⟩
end Go.Proofs.YtgibllaifnnfkaaGreatDoor.J
namespace Go.Proofs.YtgibllaifnnfkaaGreatDoor.J
open Go.RowKit
def kArr : Array Value := (kays.map (Value.int .u32)).toArray
theorem kArr_size : kArr.size = 64 := by rw [kArr, List.size_toArray, List.length_map]; rfl
theorem kArr_at (i : Nat) (h : i < 64) : kArr[i]? = some (.int .u32 (kays.getD i 0)) := by
  have h' : i < kays.length := h
  simp [kArr, h', List.getD]
theorem kArr_one : kArr.all (·.oneCell') = true := all_oneCell_toArray fun v hv => by obtain ⟨x, _, rfl⟩ := List.mem_map.1 hv; rfl
theorem kArr_info : (Tryz.prog.info? 64).map (·.size) = some kArr.size := by rw [info40, kArr_size]
set_option maxHeartbeats 400000 in
theorem rot32_any (x n : Int) (w : World) (h1 : 0 < n) (h2 : n < 32) :
    Calls Tryz.prog 44 #[.int .u32 x, .int .i64 n] w fun e w' => e = .returned (.int .u32 (rotl x (32 - n).toNat)) ∧ w' = w := by
  go_enter Tryz.func44, Tryz.ntmps44
  go_wp2_with fail
  refine (rot_any x (-n) w (by omega) (by omega)).mono ?_
  rintro e w' ⟨rfl, rfl⟩
  go_wp2
  go_ret
  refine ⟨ret_int ?_, rfl⟩
  rw [show 32 + -n = 32 - n from by omega]
theorem wpList_value {P : Program} {ops : Array Oper} {rest : List Oper} {op : Oper} {a : Act} {w : World} {Q : Exit → Act → World → Prop} (hgd : op.guard = none) (v : Value) (hrun : (execOp a.eval op).run P w = .ok (.value v) w)
    (h : wpList P ops Q rest (a.put op.dst v) w) : wpList P ops Q (op :: rest) a w :=
  wpList_plain hgd fun _ hK => by
    unfold Oper.wp
    rw [hrun]
    exact hK _ _ h
set_option maxRecDepth 100000 in
set_option maxHeartbeats 1000000 in
theorem k256_any (w : World) : Calls Tryz.prog 42 #[] w fun e w' => e = .returned (.agg kArr) ∧ Below w.heap.size w w' := by
  go_enter Tryz.func42, Tryz.ntmps42
  go_upto_region 1 with fail
  go_wp2_with (first | refine wpList_store_new (by rfl) 64 (.tmp 0) (.tmp 1) (by rfl) _ kArr (by rfl) (by rfl) kArr_info (by rw [kArr_size]; rfl) kArr_one (by rfl) ?_ | refine wpList_value (by rfl) (.agg kArr) (by kernel_rfl) ?_)
  exact bodyPost_ret (results_own Tryz.results42 _ _ w.heap.size kArr _ rfl (own_new _ _ _) Tryz.underlying64 rfl kArr_info) rfl ⟨rfl, (Below.refl _ _).alloc (Nat.le_refl _) _⟩
end Go.Proofs.YtgibllaifnnfkaaGreatDoor.J
