/- Of the texts SV1, SM1, UD, US, UR1, UE2, RW, UV1: what the card of this claim reaches. -/
import Derived.Test.YtgibllaifnnfkaaDoorXR23
import Derived.Test.YtgibllaifnnfkaaDoorXR4
import Derived.Test.YtgibllaifnnfkaaDoorXR22
import Derived.Test.YtgibllaifnnfkaaDoorXR20
namespace Go.Proofs.YtgibllaifnnfkaaDoor
open Go Go.RowKit
set_option maxRecDepth 100000 in
set_option maxHeartbeats 600000 in
theorem verify_gen {T : World → Prop} (F : Low T) {p R S k t : Nat} {f g : Nat → Nat} {e1 e2 : Int} {b0 v0 v : Bool} {ta : Option Addr} {tc : Nat} {m : List Int} (lR : Hid (R < R256)) (lS : Hid (S < R256)) (Hk : Hid (dn (by32 R ++ (by32 p ++ m)) % LL = k)) (hS : Hid (decide (S < LL) = b0))
    (hM : Hid (∀ w, T w → Calls Tryd.prog 23 #[.agg (B32 (bdig k)), .agg (B32 (bdig p))] w fun x w' => x = .returned (.tuple #[.agg (B32 f), .int .i64 e1]) ∧ Below w.heap.size w w')) (hA : Hid (e1 = 0 → (∀ w, T w → Calls Tryd.prog 24 #[.agg (B32 (bdig R)), .agg (B32 f)] w fun x w' => x = .returned (.tuple #[.agg (B32 g), .int .i64 e2]) ∧ Below w.heap.size w w')))
    (Ht : Hid (enc (Pt.times S BP) = t)) (heq : ∀ w, (Op.equalIn 10000 22 (.agg (B32 g)) (.agg (B32 (bdig t)))).run Tryd.prog w = .ok v0 w)
    (h0 : Hid (b0 = false → v = false)) (h1 : Hid ((e1 = 1 ∧ v = false) ∨ (e1 = 0 ∧ ((e2 = 1 ∧ v = false) ∨ (e2 = 0 ∧ (b0 = true → v0 = v)))))) (hl : m.length ≤ 1000) (w : World) (hT : T w) (hm : Txt w ta tc m) : Calls Tryd.prog 10 #[.agg (B32 (bdig p)), .slice ta m.length tc, .agg (B64 (bdig (two R S)))] w fun x w' => x = .returned (.bool v) ∧ Below w.heap.size w w' := by
  have hz := (zero_of_info zeroB32).1
  go_enter Tryd.func10, Tryd.ntmps10
  go_upto_region 1 with fail
  have hK := ((Kp.nil w).alloc (B32 (bdig p)) 22).alloc (B64 (bdig (two R S))) 24
  rw [World.size_alloc] at hK
  generalize (w.alloc (.cells (B32 (bdig p)) 22)).alloc (.cells (B64 (bdig (two R S))) 24) = W at *
  obtain ⟨bA, HbA⟩ : ∃ b, Hid (w.heap.size = b) := ⟨_, rfl⟩
  obtain ⟨bS, HbS⟩ : ∃ b, Hid (bA + 1 = b) := ⟨_, rfl⟩
  have le_bA : Hid (w.heap.size ≤ bA) := by show _ ≤ _; have := HbA.out; omega
  have le_bS : Hid (w.heap.size ≤ bS) := by show _ ≤ _; have := HbA.out; have := HbS.out; omega
  have ne_bA_bS : Hid (bA ≠ bS) := by show _ ≠ _; have := HbS.out; omega
  rw [HbA.out, HbS.out] at hK ⊢
  refine wp_region_lv 46 (fun _ => [(bS, B64 (bdig (two R S)), 24), (bA, B32 (bdig p), 22)]) [.v (.slice (some ⟨bS, 0, none⟩) 32 64), .v (.pointer (some ⟨bS, 0, none⟩)), .v (.agg (B32 (bdig R))), .v (.slice (some ⟨bS, 32, none⟩) 32 32), .v (.pointer (some ⟨bS, 32, none⟩)), .v (.agg (B32 (bdig S))), .mk (B32 fun _ => 0) (B32 (bdig R)) 22 8, .mk (B32 fun _ => 0) (B32 (bdig S)) 22 9, .o, .o] hK (by kernel_rfl) (by kernel_rfl) (by kernel_rfl) (by rfl) ?_ ?_
  · exact .c (.p1 5 (.pointer (some ⟨bS, 0, none⟩))) <| .c (.p1 12 (.slice (some ⟨bS, 0, none⟩) 32 64)) <| .c (.x [(13, .pointer (some ⟨bS, 0, none⟩))] fun _ _ _ _ _ hfx hkx hx => wp_load_mid 22 (.tmp 13) rfl bS 0 (hfx _ (.head _)) (B32 (bdig R)).toList _ (B64_lo2 lR.out (hkx.at bS (B64 (bdig (two R S))) 24 (.head _))) Tryd.underlying22 rfl (B32_len7 _) (hx _ _ rfl (Below.refl _ _))) <| .c (.p1 5 (.pointer (some ⟨bS, 0, none⟩))) <| .c (.p1 15 (.slice (some ⟨bS, 32, none⟩) 32 32)) <| .c (.x [(16, .pointer (some ⟨bS, 32, none⟩))] fun _ _ _ _ _ hfx hkx hx => wp_load_mid 22 (.tmp 16) rfl bS 32 (hfx _ (.head _)) (B32 (bdig S)).toList _ (B64_hi2 lR.out (hkx.at bS (B64 (bdig (two R S))) 24 (.head _))) Tryd.underlying22 rfl (B32_len7 _) (hx _ _ rfl (Below.refl _ _))) <| .c (.al hz) <| .c (.al hz) <| .c (.st 6 (B32_info _) (B32_one _)) <| .c (.st 7 (B32_info _) (B32_one _)) .nil
  intro vs V1 hJ hf
  obtain ⟨g2, hgg2⟩ := hf 6 _ _ rfl rfl
  obtain ⟨le0, apg2, owng2⟩ := hJ.got 6 hgg2
  have le_g2 := show Hid _ from le0
  clear le0
  obtain ⟨g3, hgg3⟩ := hf 7 _ _ rfl rfl
  obtain ⟨le0, apg3, owng3⟩ := hJ.got 7 hgg3
  have le_g3 := show Hid _ from le0
  clear le0
  have ne_g2_g3 := hJ.apart 6 7 hgg2 hgg3
  have ne_bS_g2 : Hid (bS ≠ g2) := apg2 (bS, B64 (bdig (two R S)), 24) (.head _)
  have ne_bA_g2 : Hid (bA ≠ g2) := apg2 (bA, B32 (bdig p), 22) (.tail _ (.head _))
  have ne_bS_g3 : Hid (bS ≠ g3) := apg3 (bS, B64 (bdig (two R S)), 24) (.head _)
  have ne_bA_g3 : Hid (bA ≠ g3) := apg3 (bA, B32 (bdig p), 22) (.tail _ (.head _))
  have hK : Kp [(g3, B32 (bdig S), 22), (g2, B32 (bdig R), 22), (bS, B64 (bdig (two R S)), 24), (bA, B32 (bdig p), 22)] w V1 := ((hJ.1.cons owng2).cons owng3)
  simp only [putL, Lv.val, Nat.zero_add, Nat.reduceAdd, hgg2, hgg3, Act.put, List.setIfInBounds_toArray, List.set_cons_succ, List.set_cons_zero]
  clear hJ hf hgg2 hgg3 apg2 apg3 owng2 owng3
  go_wp2_with (refine wpList_load_own (by rfl) 22 (.tmp 8) (by rfl) g3 (by rfl) (B32 (bdig S)) _ (hK.at g3 (B32 (bdig S)) 22 (.head _)) Tryd.underlying22 (by rfl) (B32_info _) ?_)
  refine (F.scheckA lS.out hS.out _ (F.keep _ _ hT hK.2)).mono ?_
  rintro e V4 ⟨rfl, bw⟩
  have hK := hK.below bw
  clear bw
  cases b0
  · go_wp2_with fail
    go_ret
    exact ⟨by first | rfl | (rw [h0.out (by simp)]; rfl), hK.2⟩
  go_upto_region 4 with fail
  refine wp_region_lv 46 (fun _ => [(g3, B32 (bdig S), 22), (g2, B32 (bdig R), 22), (bS, B64 (bdig (two R S)), 24), (bA, B32 (bdig p), 22)]) [.v (.agg (B32 (bdig R))), .v (.agg (B32 (bdig p))), .v (.slice ta m.length tc), .v (.agg (B32 (bdig k))), .v (.agg (B32 (bdig p))), .v (.tuple #[.agg (B32 f), .int .i64 (e1)]), .v (.tuple #[.agg (B32 f), .int .i64 (e1)]), .v (.agg (B32 f)), .v (.int .i64 (e1)), .mk (B32 fun _ => 0) (B32 f) 22 10, .o, .v (.int .i64 (e1))] hK (by kernel_rfl) (by kernel_rfl) (by kernel_rfl) (by rfl) ?_ ?_
  · exact .c (.ld g2 (fun _ => .tail _ (.head _)) Tryd.underlying22 rfl (B32_info _)) <| .c (.ld bA (fun _ => .tail _ (.tail _ (.tail _ (.head _)))) Tryd.underlying22 rfl (B32_info _)) <| .c (.p1 1 (.slice ta m.length tc)) <| .c (.ca fun _ _ hkx => bound_at F Hk hl _ (F.keep _ _ hT hkx.2) (hm.below hkx.2)) <| .c (.ld bA (fun _ => .tail _ (.tail _ (.tail _ (.head _)))) Tryd.underlying22 rfl (B32_info _)) <| .c (.ca fun _ _ hkx => hM.out _ (F.keep _ _ hT hkx.2)) <| .c (.p1 27 (.tuple #[.agg (B32 f), .int .i64 (e1)])) <| .c (.p1 21 (.tuple #[.agg (B32 f), .int .i64 (e1)])) <| .c (.p1 21 (.tuple #[.agg (B32 f), .int .i64 (e1)])) <| .c (.al hz) <| .c (.st 9 (B32_info _) (B32_one _)) <| .c (.p1 29 (.int .i64 (e1))) .nil
  intro vs V5 hJ hf
  obtain ⟨g6, hgg6⟩ := hf 9 _ _ rfl rfl
  obtain ⟨le0, apg6, owng6⟩ := hJ.got 9 hgg6
  have le_g6 := show Hid _ from le0
  clear le0
  have ne_g3_g6 : Hid (g3 ≠ g6) := apg6 (g3, B32 (bdig S), 22) (.head _)
  have ne_g2_g6 : Hid (g2 ≠ g6) := apg6 (g2, B32 (bdig R), 22) (.tail _ (.head _))
  have ne_bS_g6 : Hid (bS ≠ g6) := apg6 (bS, B64 (bdig (two R S)), 24) (.tail _ (.tail _ (.head _)))
  have ne_bA_g6 : Hid (bA ≠ g6) := apg6 (bA, B32 (bdig p), 22) (.tail _ (.tail _ (.tail _ (.head _))))
  have hK : Kp [(g6, B32 f, 22), (g3, B32 (bdig S), 22), (g2, B32 (bdig R), 22), (bS, B64 (bdig (two R S)), 24), (bA, B32 (bdig p), 22)] w V5 := (hJ.1.cons owng6)
  simp only [putL, Lv.val, Nat.zero_add, Nat.reduceAdd, hgg6, Act.put, List.setIfInBounds_toArray, List.set_cons_succ, List.set_cons_zero]
  clear hJ hf hgg6 apg6 owng6
  rcases h1.out with ⟨rfl, hv⟩ | ⟨rfl, h2⟩
  · replace hv := show Hid _ from hv
    go_wp2
    go_ret
    exact ⟨by first | rfl | (rw [hv.out]; rfl), hK.2⟩
  replace h2 := show Hid _ from h2
  go_upto_region 7 with fail
  go_wp2_with (first
    | refine wpList_load_own (by rfl) 22 (.tmp 7) (by rfl) g2 (by rfl) (B32 (bdig R)) _ (hK.at g2 (B32 (bdig R)) 22 (.tail _ (.tail _ (.head _)))) Tryd.underlying22 (by rfl) (B32_info _) ?_
    | refine wpList_load_own (by rfl) 22 (.tmp 9) (by rfl) g6 (by rfl) (B32 f) _ (hK.at g6 (B32 f) 22 (.head _)) Tryd.underlying22 (by rfl) (B32_info _) ?_)
  refine (hA.out (by simp) _ (F.keep _ _ hT hK.2)).mono ?_
  rintro e V7 ⟨rfl, bw⟩
  have hK := hK.below bw
  clear bw
  go_upto_region 8 with (refine wpList_store_new (by rfl) 22 (.tmp 11) (.tmp 36) (by rfl) _ (B32 g) (by rfl) (by rfl) (B32_info _) (B32_sizes _ _) (B32_one _) (by rfl) ?_)
  have lt_g6 := (hK.at g6 (B32 f) 22 (.head _)).lt
  have lt_g3 := (hK.at g3 (B32 (bdig S)) 22 (.tail _ (.head _))).lt
  have lt_g2 := (hK.at g2 (B32 (bdig R)) 22 (.tail _ (.tail _ (.head _)))).lt
  have lt_bS := (hK.at bS (B64 (bdig (two R S))) 24 (.tail _ (.tail _ (.tail _ (.head _))))).lt
  have lt_bA := (hK.at bA (B32 (bdig p)) 22 (.tail _ (.tail _ (.tail _ (.tail _ (.head _)))))).lt
  have le_b8 := show Hid _ from hK.2.size
  have hK := hK.alloc (B32 g) 22
  generalize V7.alloc (.cells (B32 g) 22) = V9 at *
  obtain ⟨b8, Hb8⟩ : ∃ b, Hid (V7.heap.size = b) := ⟨_, rfl⟩
  have ne_g6_b8 : Hid (g6 ≠ b8) := by show _ ≠ _; rw [← Hb8.out]; exact Nat.ne_of_lt lt_g6
  have ne_g3_b8 : Hid (g3 ≠ b8) := by show _ ≠ _; rw [← Hb8.out]; exact Nat.ne_of_lt lt_g3
  have ne_g2_b8 : Hid (g2 ≠ b8) := by show _ ≠ _; rw [← Hb8.out]; exact Nat.ne_of_lt lt_g2
  have ne_bS_b8 : Hid (bS ≠ b8) := by show _ ≠ _; rw [← Hb8.out]; exact Nat.ne_of_lt lt_bS
  have ne_bA_b8 : Hid (bA ≠ b8) := by show _ ≠ _; rw [← Hb8.out]; exact Nat.ne_of_lt lt_bA
  have le_b8 : Hid (w.heap.size ≤ b8) := by show _ ≤ _; rw [← Hb8.out]; exact le_b8.out
  rw [Hb8.out] at hK ⊢
  clear lt_g6 lt_g3 lt_g2 lt_bS lt_bA
  rcases h2.out with ⟨rfl, hv⟩ | ⟨rfl, hv⟩
  · replace hv := show Hid _ from hv
    refine wp_region_lv 46 (fun _ => [(b8, B32 g, 22), (g6, B32 f, 22), (g3, B32 (bdig S), 22), (g2, B32 (bdig R), 22), (bS, B64 (bdig (two R S)), 24), (bA, B32 (bdig p), 22)]) [.v (.int .i64 (1)), .v (.bool false), .v (.bool false), .v undef, .v undef, .v undef, .v undef, .v (.bool false), .v (.bool false)] hK (by kernel_rfl) (by kernel_rfl) (by kernel_rfl) (by rfl) ?_ ?_
    · exact .c (.p1 10 (.int .i64 (1))) <| .c (.p1 38 (.int .i64 (1))) <| .c (.p1 39 (.bool false)) <| .c .ps <| .c .ps <| .c .ps <| .c .ps <| .c (.p2 40 (.bool false) 44 (undef)) <| .c (.p1 45 (.bool false)) .nil
    intro _ V10 hJ _
    have hK : Kp [(b8, B32 g, 22), (g6, B32 f, 22), (g3, B32 (bdig S), 22), (g2, B32 (bdig R), 22), (bS, B64 (bdig (two R S)), 24), (bA, B32 (bdig p), 22)] w V10 := hJ.1
    clear hJ
    simp only [putL, Lv.val, Act.put, List.setIfInBounds_toArray, List.set_cons_succ, List.set_cons_zero]
    go_wp2
    go_ret
    exact ⟨by first | rfl | (rw [hv.out]; rfl), hK.2⟩
  · replace hv := show Hid _ from hv
    refine wp_region_lv 46 (fun _ => [(b8, B32 g, 22), (g6, B32 f, 22), (g3, B32 (bdig S), 22), (g2, B32 (bdig R), 22), (bS, B64 (bdig (two R S)), 24), (bA, B32 (bdig p), 22)]) [.v (.int .i64 (0)), .v (.bool true), .v (.bool true), .v (.agg (B32 g)), .v (.agg (B32 (bdig S))), .v (.agg (B32 (bdig t))), .v (.bool v0), .v (.bool v0), .v (.bool v0)] hK (by kernel_rfl) (by kernel_rfl) (by kernel_rfl) (by rfl) ?_ ?_
    · exact .c (.p1 10 (.int .i64 (0))) <| .c (.p1 38 (.int .i64 (0))) <| .c (.p1 39 (.bool true)) <| .c (.ld b8 (fun _ => .head _) Tryd.underlying22 rfl (B32_info _)) <| .c (.ld g3 (fun _ => .tail _ (.tail _ (.head _))) Tryd.underlying22 rfl (B32_info _)) <| .c (.ca fun _ _ hkx => F.baseA lS.out Ht.out _ (F.keep _ _ hT hkx.2)) <| .c (.p2 41 (.agg (B32 g)) 43 (.agg (B32 (bdig t)))) <| .c (.p2 40 (.bool true) 44 (.bool v0)) <| .c (.p1 45 (.bool v0)) .nil
    intro _ V10 hJ _
    have hK : Kp [(b8, B32 g, 22), (g6, B32 f, 22), (g3, B32 (bdig S), 22), (g2, B32 (bdig R), 22), (bS, B64 (bdig (two R S)), 24), (bA, B32 (bdig p), 22)] w V10 := hJ.1
    clear hJ
    simp only [putL, Lv.val, Act.put, List.setIfInBounds_toArray, List.set_cons_succ, List.set_cons_zero]
    go_wp2
    go_ret
    exact ⟨by first | rfl | (rw [hv.out (by simp)]; rfl), hK.2⟩
end Go.Proofs.YtgibllaifnnfkaaDoor
namespace Go.Proofs.YtgibllaifnnfkaaDoor
open Go Go.RowKit
theorem enc_R7 (P : Pt E5) : enc P < R256 := by rw [R256_HH]; exact enc_lt P
def numOf (n : Nat) : Nat := clamp (dn (by32 n) % R256)
def preOf (n : Nat) : Nat := dn (by32 n) / R256
def pubOf (n : Nat) : Nat := enc (Pt.times (numOf n) BP)
def bindOf (R p : Nat) (m : List Int) : Nat := dn (by32 R ++ (by32 p ++ m)) % LL
def onceOf (n : Nat) (m : List Int) : Nat := dn (by32 (preOf n) ++ m) % LL
def rOf (n : Nat) (m : List Int) : Nat := enc (Pt.times (onceOf n m) BP)
def sOf (n : Nat) (m : List Int) : Nat := (bindOf (rOf n m) (pubOf n) m * numOf n + onceOf n m) % LL
def sigOf (n : Nat) (m : List Int) : Nat := two (rOf n m) (sOf n m)
theorem pubOf_lt (n : Nat) : pubOf n < R256 := enc_R7 _
theorem rOf_lt (n : Nat) (m : List Int) : rOf n m < R256 := enc_R7 _
theorem sOf_lt (n : Nat) (m : List Int) : sOf n m < LL := Nat.mod_lt _ LL_pos
theorem sOf_lt2 (n : Nat) (m : List Int) : sOf n m < R256 := Nat.lt_trans (sOf_lt n m) LL_lt
def Signed (p : Nat) (m : List Int) (R S : Nat) : Prop := S < LL ∧ ∃ P Q : Pt E5, enc P = p ∧ enc Q = R ∧ enc (Q.add (Pt.times (bindOf R p m) P)) = enc (Pt.times S BP)
noncomputable def signedB (p : Nat) (m : List Int) (R S : Nat) : Bool := @decide (Signed p m R S) (Classical.propDecidable _)
theorem signedB_true {p : Nat} {m : List Int} {R S : Nat} : signedB p m R S = true ↔ Signed p m R S := by unfold signedB; exact @decide_eq_true_iff _ (Classical.propDecidable _)
theorem signedB_false {p : Nat} {m : List Int} {R S : Nat} (h : ¬ Signed p m R S) : signedB p m R S = false := by unfold signedB; exact @decide_eq_false _ (Classical.propDecidable _) h
theorem signedB_pts {P Q : Pt E5} {p : Nat} {m : List Int} {R S : Nat} (hS : S < LL) (hP : enc P = p) (hQ : enc Q = R) : signedB p m R S = decide (enc (Q.add (Pt.times (bindOf R p m) P)) = enc (Pt.times S BP)) := by
  by_cases h : enc (Q.add (Pt.times (bindOf R p m) P)) = enc (Pt.times S BP)
  · rw [decide_eq_true h]; exact signedB_true.2 ⟨hS, P, Q, hP, hQ, h⟩
  · rw [decide_eq_false h]
    refine signedB_false fun ⟨_, P', Q', hP', hQ', h'⟩ => h ?_
    rw [enc_inj (hP.trans hP'.symm), enc_inj (hQ.trans hQ'.symm)]; exact h'
theorem signedB_low {p : Nat} {m : List Int} {R S : Nat} (h : decide (S < LL) = false) : signedB p m R S = false := signedB_false fun hs => by
  rw [decide_eq_true hs.1] at h; cases h
theorem signedB_nop {p : Nat} {m : List Int} {R S : Nat} (h : ∀ P : Pt E5, enc P ≠ p) : signedB p m R S = false := signedB_false fun ⟨_, P, _, hP, _⟩ => h P hP
theorem signedB_nor {p : Nat} {m : List Int} {R S : Nat} (h : ∀ Q : Pt E5, enc Q ≠ R) : signedB p m R S = false := signedB_false fun ⟨_, _, Q, _, hQ, _⟩ => h Q hQ
theorem sign_eqn (n : Nat) (m : List Int) : (Pt.times (onceOf n m) BP).add (Pt.times (bindOf (rOf n m) (pubOf n) m) (Pt.times (numOf n) BP)) = Pt.times (sOf n m) BP := by
  unfold sOf
  generalize bindOf (rOf n m) (pubOf n) m = k
  generalize numOf n = c
  generalize onceOf n m = r
  rw [Pt.times_mod base_L, Pt.times_add, Nat.mul_comm, Pt.times_mul, Pt.add_comm]
theorem sign_signed (n : Nat) (m : List Int) : signedB (pubOf n) m (rOf n m) (sOf n m) = true :=
  signedB_true.2 ⟨sOf_lt n m, Pt.times (numOf n) BP, Pt.times (onceOf n m) BP, rfl, rfl, by rw [sign_eqn]⟩
section
variable {T : World → Prop} (F : Low T)
include F
theorem public_is (n : Nat) (w : World) (hT : T w) : Calls Tryd.prog 7 #[.agg (B32 (bdig n))] w fun x w' => x = .returned (.agg (B32 (bdig (pubOf n)))) ∧ Below w.heap.size w w' :=
  public_at F (lo := dn (by32 n) % R256) (hi := preOf n) (c := numOf n) (two_parts _).symm (lo_lt _) rfl rfl w hT
theorem sign_is (n : Nat) {ta : Option Addr} {tc : Nat} {m : List Int} (hl : m.length ≤ 1000) (w : World) (hT : T w) (hm : Txt w ta tc m) : Calls Tryd.prog 8 #[.agg (B32 (bdig n)), .slice ta m.length tc] w fun x w' => x = .returned (.agg (B64 (bdig (sigOf n m)))) ∧ Below w.heap.size w w' :=
  sign_at F (lo := dn (by32 n) % R256) (hi := preOf n) (c := numOf n) (y := pubOf n) (r := onceOf n m) (R := rOf n m) (k := bindOf (rOf n m) (pubOf n) m) (S := sOf n m) (two_parts _).symm (lo_lt _) rfl rfl rfl rfl rfl rfl hl w hT hm
theorem verify_is {p R S : Nat} {ta : Option Addr} {tc : Nat} {m : List Int} (lp : p < R256) (lR : R < R256) (lS : S < R256) (hl : m.length ≤ 1000) (w : World) (hT : T w) (hm : Txt w ta tc m) : Calls Tryd.prog 10 #[.agg (B32 (bdig p)), .slice ta m.length tc, .agg (B64 (bdig (two R S)))] w fun x w' => x = .returned (.bool (signedB p m R S)) ∧ Below w.heap.size w w' := by
  have lk : bindOf R p m < R256 := lt_of_modL
  have z0 : B32 (fun _ => 0) = B32 (bdig 0) := B32_ext fun i _ => (bdig_zero i).symm
  have lt := enc_R7 (Pt.times S BP)
  by_cases hp : ∃ P : Pt E5, enc P = p
  · obtain ⟨P, rfl⟩ := hp
    by_cases hR : ∃ Q : Pt E5, enc Q = R
    · obtain ⟨Q, rfl⟩ := hR
      refine verify_gen F lR lS rfl rfl (fun w hT => F.mul _ lk P w hT) (fun _ w hT => F.add Q _ w hT) rfl (fun w => B32_eq _ _ (enc_R7 _) lt w) (fun h => signedB_low h) (.inr ⟨rfl, .inr ⟨rfl, fun h => ?_⟩⟩) hl w hT hm
      exact (signedB_pts (of_decide_eq_true h) rfl rfl).symm
    · refine verify_gen F lR lS rfl rfl (fun w hT => F.mul _ lk P w hT) (fun _ w hT => F.add_not R _ lR (enc_R7 _) (.inl fun Q e => hR ⟨Q, e⟩) w hT) rfl (fun w => by rw [z0]; exact B32_eq _ _ (by decide) lt w) (fun h => signedB_low h) (.inr ⟨rfl, .inl ⟨rfl, signedB_nor fun Q e => hR ⟨Q, e⟩⟩⟩) hl w hT hm
  · have hn : ∀ P : Pt E5, enc P ≠ p := fun P e => hp ⟨P, e⟩
    exact verify_gen F (f := fun _ => 0) (g := bdig 0) (e1 := 1) (e2 := 0) lR lS rfl rfl (fun w hT => F.mul_not _ p lk lp hn w hT) (fun h => by cases h) rfl (fun w => B32_eq _ _ (by decide) lt w) (fun h => signedB_low h) (.inl ⟨rfl, signedB_nop hn⟩) hl w hT hm
end
end Go.Proofs.YtgibllaifnnfkaaDoor
namespace Go.Proofs.YtgibllaifnnfkaaDoor
open Go Go.RowKit
def opub (n : Nat) : Nat := hn (1 :: by32 n)
def oR (p : Nat) (m : List Int) : Nat := hn (2 :: (by32 p ++ m))
def oS (p : Nat) (m : List Int) : Nat := hn (3 :: (by32 p ++ m))
noncomputable def pubK (kind : Int) (n : Nat) : Nat := if kind = 1 then pubOf n else opub n
noncomputable def sgR (kind : Int) (n : Nat) (m : List Int) : Nat := if kind = 1 then rOf n m else oR (opub n) m
noncomputable def sgS (kind : Int) (n : Nat) (m : List Int) : Nat := if kind = 1 then sOf n m else oS (opub n) m
noncomputable def verK (kind : Int) (p : Nat) (m : List Int) (R S : Nat) : Bool := if kind = 1 then signedB p m R S else if kind = 2 then decide (two R S = two (oR p m) (oS p m)) else false
theorem opub_lt (n : Nat) : opub n < R256 := hn_lt _
theorem oR_lt (p : Nat) (m : List Int) : oR p m < R256 := hn_lt _
theorem oS_lt (p : Nat) (m : List Int) : oS p m < R256 := hn_lt _
theorem pubK_lt {kind : Int} (h : kind = 1 ∨ kind = 2) (n : Nat) : pubK kind n < R256 := by
  rcases h with rfl | rfl
  · rw [show pubK 1 n = pubOf n from if_pos rfl]
    exact pubOf_lt n
  · rw [show pubK 2 n = opub n from if_neg (by decide)]
    exact opub_lt n
theorem sgR_lt {kind : Int} (h : kind = 1 ∨ kind = 2) (n : Nat) (m : List Int) : sgR kind n m < R256 := by
  rcases h with rfl | rfl
  · rw [show sgR 1 n m = rOf n m from if_pos rfl]
    exact rOf_lt n m
  · rw [show sgR 2 n m = oR (opub n) m from if_neg (by decide)]
    exact oR_lt _ _
theorem sgS_lt {kind : Int} (h : kind = 1 ∨ kind = 2) (n : Nat) (m : List Int) : sgS kind n m < R256 := by
  rcases h with rfl | rfl
  · rw [show sgS 1 n m = sOf n m from if_pos rfl]
    exact sOf_lt2 n m
  · rw [show sgS 2 n m = oS (opub n) m from if_neg (by decide)]
    exact oS_lt _ _
theorem verK_own {kind : Int} (h : kind = 1 ∨ kind = 2) (n : Nat) (m : List Int) : verK kind (pubK kind n) m (sgR kind n m) (sgS kind n m) = true := by
  rcases h with rfl | rfl
  · rw [show pubK 1 n = pubOf n from if_pos rfl, show sgR 1 n m = rOf n m from if_pos rfl, show sgS 1 n m = sOf n m from if_pos rfl, show verK 1 (pubOf n) m (rOf n m) (sOf n m) = signedB (pubOf n) m (rOf n m) (sOf n m) from if_pos rfl]
    exact sign_signed n m
  · rw [show pubK 2 n = opub n from if_neg (by decide), show sgR 2 n m = oR (opub n) m from if_neg (by decide), show sgS 2 n m = oS (opub n) m from if_neg (by decide)]
    unfold verK
    rw [if_neg (by decide), if_pos rfl]
    exact decide_eq_true rfl
theorem infoE5 : (Tryd.prog.info? 5).map (fun i => (i.size, i.zero.isSome)) = some (1, true) := by kernel_rfl
end Go.Proofs.YtgibllaifnnfkaaDoor
namespace Go.Proofs.YtgibllaifnnfkaaDoor
open Go Go.RowKit
structure Ste (T : World → Prop) : Prop where
  keep : ∀ w w', T w → Below w.heap.size w w' → T w'
  pub : ∀ (kind : Int), kind = 1 ∨ kind = 2 → ∀ (n : Nat) w, T w → Calls Tryd.prog 5 #[.int .i64 kind, .agg (B32 (bdig n))] w fun x w' => x = .returned (.tuple #[.agg (B32 (bdig (pubK kind n))), .int .i64 0]) ∧ Below w.heap.size w w'
  pub_no : ∀ (kind : Int), kind ≠ 1 → kind ≠ 2 → ∀ (n : Nat) w, T w → Calls Tryd.prog 5 #[.int .i64 kind, .agg (B32 (bdig n))] w fun x w' => x = .returned (.tuple #[.agg (B32 fun _ => 0), .int .i64 1]) ∧ Below w.heap.size w w'
  sgn : ∀ (kind : Int), kind = 1 ∨ kind = 2 → ∀ (n : Nat) (ta : Option Addr) (tc : Nat) (m : List Int), m.length ≤ 1000 → ∀ w, T w → Txt w ta tc m → Calls Tryd.prog 6 #[.int .i64 kind, .agg (B32 (bdig n)), .slice ta m.length tc] w fun x w' => x = .returned (.tuple #[.agg (B64 (bdig (two (sgR kind n m) (sgS kind n m)))), .int .i64 0]) ∧ Below w.heap.size w w'
  sgn_no : ∀ (kind : Int), kind ≠ 1 → kind ≠ 2 → ∀ (n : Nat) (ta : Option Addr) (tc : Nat) (m : List Int), m.length ≤ 1000 → ∀ w, T w → Txt w ta tc m → Calls Tryd.prog 6 #[.int .i64 kind, .agg (B32 (bdig n)), .slice ta m.length tc] w fun x w' => x = .returned (.tuple #[.agg (B64 fun _ => 0), .int .i64 1]) ∧ Below w.heap.size w w'
  ver : ∀ (kind : Int) (p R S : Nat) (ta : Option Addr) (tc : Nat) (m : List Int), p < R256 → R < R256 → S < R256 → m.length ≤ 1000 → ∀ w, T w → Txt w ta tc m → Calls Tryd.prog 9 #[.int .i64 kind, .agg (B32 (bdig p)), .slice ta m.length tc, .agg (B64 (bdig (two R S)))] w fun x w' => x = .returned (.bool (verK kind p m R S)) ∧ Below w.heap.size w w'
end Go.Proofs.YtgibllaifnnfkaaDoor
namespace Go.Proofs.YtgibllaifnnfkaaDoor
open Go Go.RowKit
structure Sgn (T : World → Prop) : Prop where
  pub : ∀ (n : Nat) w, T w → Calls Tryd.prog 7 #[.agg (B32 (bdig n))] w fun x w' => x = .returned (.agg (B32 (bdig (pubOf n)))) ∧ Below w.heap.size w w'
  sgn : ∀ (n : Nat) (ta : Option Addr) (tc : Nat) (m : List Int), m.length ≤ 1000 → ∀ w, T w → Txt w ta tc m → Calls Tryd.prog 8 #[.agg (B32 (bdig n)), .slice ta m.length tc] w fun x w' => x = .returned (.agg (B64 (bdig (sigOf n m)))) ∧ Below w.heap.size w w'
  ver : ∀ (p R S : Nat) (ta : Option Addr) (tc : Nat) (m : List Int), p < R256 → R < R256 → S < R256 → m.length ≤ 1000 → ∀ w, T w → Txt w ta tc m → Calls Tryd.prog 10 #[.agg (B32 (bdig p)), .slice ta m.length tc, .agg (B64 (bdig (two R S)))] w fun x w' => x = .returned (.bool (signedB p m R S)) ∧ Below w.heap.size w w'
set_option maxRecDepth 100000 in
set_option maxHeartbeats 2000000 in
theorem sreal_is {T : World → Prop} (F : Ste T) (G : Sgn T) (hwk : ∀ w, T w → Calls Tryd.prog 11 #[] w fun x w' => x = .returned (.bool true) ∧ Below w.heap.size w w') {n R S : Nat} {ta : Option Addr} {tc : Nat} {m : List Int} (lR : R < R256) (lS : S < R256) (hn : m.length ≤ 200) (w : World) (hT : T w) (hm : Txt w ta tc m) : Calls Tryd.prog 3 #[.agg (B32 (bdig n)), .slice ta m.length tc, .agg (B64 (bdig (two R S)))] w fun x w' => x = .returned (.bool true) ∧ Below w.heap.size w w' := by
  have hz := (zero_of_info zeroB32).1
  have hz64 := (zero_of_info zeroB64).1
  have hki : ¬ (200 : Int) < (m.length : Int) := by omega
  have hki' : decide ((200 : Int) < (m.length : Int)) = false := decide_eq_false hki
  have hl1 : Hid (m.length ≤ 1000) := by show _ ≤ _; omega
  replace hwk := show Hid _ from hwk
  obtain ⟨y, Hy⟩ : ∃ y, Hid (pubOf n = y) := ⟨_, rfl⟩
  obtain ⟨a, Ha⟩ : ∃ a, Hid (rOf n m = a) := ⟨_, rfl⟩
  obtain ⟨b, Hb⟩ : ∃ b, Hid (sOf n m = b) := ⟨_, rfl⟩
  obtain ⟨v, Hv⟩ : ∃ v, Hid (signedB y m R S = v) := ⟨_, rfl⟩
  have ly : Hid (y < R256) := by show _ < _; rw [← Hy.out]; exact pubOf_lt n
  have la : Hid (a < R256) := by show _ < _; rw [← Ha.out]; exact rOf_lt n m
  have lb : Hid (b < R256) := by show _ < _; rw [← Hb.out]; exact sOf_lt2 n m
  have hpub : Hid (∀ w, T w → Calls Tryd.prog 5 #[.int .i64 1, .agg (B32 (bdig n))] w fun x w' => x = .returned (.tuple #[.agg (B32 (bdig y)), .int .i64 0]) ∧ Below w.heap.size w w') := fun w hT => by have h := F.pub 1 (.inl rfl) n w hT; rw [show pubK 1 n = pubOf n from if_pos rfl, Hy.out] at h; exact h
  have hsg : Hid (∀ a' c w, T w → Txt w a' c m → Calls Tryd.prog 6 #[.int .i64 1, .agg (B32 (bdig n)), .slice a' m.length c] w fun x w' => x = .returned (.tuple #[.agg (B64 (bdig (two a b))), .int .i64 0]) ∧ Below w.heap.size w w') := fun a' c w hT hm => by have h := F.sgn 1 (.inl rfl) n a' c m hl1.out w hT hm; rw [show sgR 1 n m = rOf n m from if_pos rfl, show sgS 1 n m = sOf n m from if_pos rfl, Ha.out, Hb.out] at h; exact h
  have hver : Hid (∀ a' c w, T w → Txt w a' c m → Calls Tryd.prog 9 #[.int .i64 1, .agg (B32 (bdig y)), .slice a' m.length c, .agg (B64 (bdig (two R S)))] w fun x w' => x = .returned (.bool v) ∧ Below w.heap.size w w') := fun a' c w hT hm => by have h := F.ver 1 y R S a' c m ly.out lR lS hl1.out w hT hm; rw [show verK 1 y m R S = signedB y m R S from if_pos rfl, Hv.out] at h; exact h
  have h7pub : Hid (∀ w, T w → Calls Tryd.prog 7 #[.agg (B32 (bdig n))] w fun x w' => x = .returned (.agg (B32 (bdig y))) ∧ Below w.heap.size w w') := fun w hT => by rw [← Hy.out]; exact G.pub n w hT
  have h7sg : Hid (∀ a' c w, T w → Txt w a' c m → Calls Tryd.prog 8 #[.agg (B32 (bdig n)), .slice a' m.length c] w fun x w' => x = .returned (.agg (B64 (bdig (two a b)))) ∧ Below w.heap.size w w') := fun a' c w hT hm => by have h := G.sgn n a' c m hl1.out w hT hm; unfold sigOf at h; rw [Ha.out, Hb.out] at h; exact h
  have h7ver : Hid (∀ a' c w, T w → Txt w a' c m → Calls Tryd.prog 10 #[.agg (B32 (bdig y)), .slice a' m.length c, .agg (B64 (bdig (two R S)))] w fun x w' => x = .returned (.bool v) ∧ Below w.heap.size w w') := fun a' c w hT hm => by rw [← Hv.out]; exact G.ver y R S a' c m ly.out lR lS hl1.out w hT hm
  clear Hy Ha Hb Hv
  have hvv : (v == v) = true := beq_self_eq_true v
  go_enter Tryd.func3, Tryd.ntmps3
  go_upto_region 3 with fail
  have hK := ((Kp.nil w).alloc (B32 (bdig n)) 22).alloc (B64 (bdig (two R S))) 24
  rw [World.size_alloc] at hK
  generalize (w.alloc (.cells (B32 (bdig n)) 22)).alloc (.cells (B64 (bdig (two R S))) 24) = W at *
  obtain ⟨b3, H3⟩ : ∃ b, Hid (w.heap.size = b) := ⟨_, rfl⟩
  obtain ⟨b5, H5⟩ : ∃ b, Hid (b3 + 1 = b) := ⟨_, rfl⟩
  rw [H3.out, H5.out] at hK ⊢
  refine wp_region_ls 58 (fun _ => [(b5, B64 (bdig (two R S)), 24), (b3, B32 (bdig n), 22)]) [.v (.agg (B32 (bdig n))), .v (.tuple #[.agg (B32 (bdig y)), .int .i64 0]), .v (.tuple #[.agg (B32 (bdig y)), .int .i64 0]), .v (.agg (B32 (bdig y))), .v (.int .i64 0), .mk (B32 fun _ => 0) (B32 (bdig y)) 22 6, .o, .v (.int .i64 0)] hK (by kernel_rfl) (by kernel_rfl) (by rfl) (.c (.ld b3 (fun _ => (.tail _ (.head _))) Tryd.underlying22 rfl (B32_info _)) <| .c (.ca fun _ w hk => hpub.out w (F.keep _ _ hT hk.2)) <| .c (.p1 16 (.tuple #[.agg (B32 (bdig y)), .int .i64 0])) <| .c (.p1 14 (.tuple #[.agg (B32 (bdig y)), .int .i64 0])) <| .c (.p1 14 (.tuple #[.agg (B32 (bdig y)), .int .i64 0])) <| .c (.al hz) <| .c (.st 5 (B32_info _) (B32_one _)) <| .c (.p1 18 (.int .i64 0)) .nil) ?_
  intro vs V1 hJ hf
  obtain ⟨g2, eg2⟩ := hf 5 _ _ rfl rfl
  obtain ⟨le_g2, ap_g2, o_g2⟩ := hJ.got 5 eg2
  have hK : Kp [(g2, B32 (bdig y), 22), (b5, B64 (bdig (two R S)), 24), (b3, B32 (bdig n), 22)] w V1 := (hJ.1.cons o_g2)
  simp only [putL, Lv.val, Nat.zero_add, Nat.reduceAdd, eg2, Act.put, List.setIfInBounds_toArray, List.set_cons_succ, List.set_cons_zero]
  clear hJ hf eg2 o_g2
  clear vs
  go_upto_region 4 with fail
  refine wp_region_ls 58 (fun _ => [(g2, B32 (bdig y), 22), (b5, B64 (bdig (two R S)), 24), (b3, B32 (bdig n), 22)]) [.v (.agg (B32 (bdig n))), .v (.slice ta m.length tc), .v (.tuple #[.agg (B64 (bdig (two a b))), .int .i64 0]), .v (.tuple #[.agg (B64 (bdig (two a b))), .int .i64 0]), .v (.agg (B64 (bdig (two a b)))), .v (.int .i64 0), .mk (B64 fun _ => 0) (B64 (bdig (two a b))) 24 7, .o, .v (.int .i64 0)] hK (by kernel_rfl) (by kernel_rfl) (by rfl) (.c (.ld b3 (fun _ => (.tail _ (.tail _ (.head _)))) Tryd.underlying22 rfl (B32_info _)) <| .c (.p1 1 (.slice ta m.length tc)) <| .c (.ca fun _ w hk => hsg.out _ _ w (F.keep _ _ hT hk.2) (hm.below hk.2)) <| .c (.p1 22 (.tuple #[.agg (B64 (bdig (two a b))), .int .i64 0])) <| .c (.p1 19 (.tuple #[.agg (B64 (bdig (two a b))), .int .i64 0])) <| .c (.p1 19 (.tuple #[.agg (B64 (bdig (two a b))), .int .i64 0])) <| .c (.al hz64) <| .c (.st 6 (B64_info _) (B64_one _)) <| .c (.p1 24 (.int .i64 0)) .nil) ?_
  intro vs V3 hJ hf
  obtain ⟨g4, eg4⟩ := hf 6 _ _ rfl rfl
  obtain ⟨le_g4, ap_g4, o_g4⟩ := hJ.got 6 eg4
  have hK : Kp [(g4, B64 (bdig (two a b)), 24), (g2, B32 (bdig y), 22), (b5, B64 (bdig (two R S)), 24), (b3, B32 (bdig n), 22)] w V3 := (hJ.1.cons o_g4)
  simp only [putL, Lv.val, Nat.zero_add, Nat.reduceAdd, eg4, Act.put, List.setIfInBounds_toArray, List.set_cons_succ, List.set_cons_zero]
  clear hJ hf eg4 o_g4
  clear vs
  go_upto_region 5 with fail
  refine wp_region_lv 58 (fun _ => [(g4, B64 (bdig (two a b)), 24), (g2, B32 (bdig y), 22), (b5, B64 (bdig (two R S)), 24), (b3, B32 (bdig n), 22)]) [.v (.int .i64 0), .v (.bool true), .v (.bool true), .v (.int .i64 0), .v (.bool true), .v (.bool true), .v (.bool true), .v (.agg (B32 (bdig y))), .v (.agg (B32 (bdig n))), .v (.agg (B32 (bdig y))), .v (.bool true), .v (.bool true), .v (.bool true), .v (.agg (B64 (bdig (two a b)))), .v (.agg (B32 (bdig n))), .v (.slice ta m.length tc), .v (.agg (B64 (bdig (two a b)))), .v (.bool true), .v (.bool true), .v (.bool true), .v (.agg (B32 (bdig y))), .v (.slice ta m.length tc), .v (.agg (B64 (bdig (two R S)))), .v (.bool v), .v (.agg (B32 (bdig y))), .v (.slice ta m.length tc), .v (.agg (B64 (bdig (two R S)))), .v (.bool v), .v (.bool true), .v (.bool true), .v (.bool true), .v (.bool true), .v (.bool true), .v (.bool true)] hK (by kernel_rfl) (by kernel_rfl) (by kernel_rfl) (by rfl) (.c (.p1 8 (.int .i64 0)) <| .c (.p1 25 (.int .i64 0)) <| .c (.p1 26 (.bool true)) <| .c (.p1 10 (.int .i64 0)) <| .c (.p1 28 (.int .i64 0)) <| .c (.p2 27 (.bool true) 29 (.bool true)) <| .c (.p1 30 (.bool true)) <| .c (.ld g2 (fun _ => (.tail _ (.head _))) Tryd.underlying22 rfl (B32_info _)) <| .c (.ld b3 (fun _ => (.tail _ (.tail _ (.tail _ (.head _))))) Tryd.underlying22 rfl (B32_info _)) <| .c (.ca fun _ w hk => h7pub.out w (F.keep _ _ hT hk.2)) <| .c (.p2 32 (.agg (B32 (bdig y))) 34 (.agg (B32 (bdig y))) (h := by intro ac wc f f'; have he := B32_eq y y ly.out ly.out wc; rw [decide_eq_true rfl] at he; go_simp)) <| .c (.p2 31 (.bool true) 35 (.bool true)) <| .c (.p1 36 (.bool true)) <| .c (.ld g4 (fun _ => .head _) Tryd.underlying24 rfl (B64_info _)) <| .c (.ld b3 (fun _ => (.tail _ (.tail _ (.tail _ (.head _))))) Tryd.underlying22 rfl (B32_info _)) <| .c (.p1 1 (.slice ta m.length tc)) <| .c (.ca fun _ w hk => h7sg.out _ _ w (F.keep _ _ hT hk.2) (hm.below hk.2)) <| .c (.p2 38 (.agg (B64 (bdig (two a b)))) 41 (.agg (B64 (bdig (two a b)))) (h := by intro ac wc f f'; have he := B64_same (two a b) (two_lt la.out lb.out) wc; go_simp)) <| .c (.p2 37 (.bool true) 42 (.bool true)) <| .c (.p1 43 (.bool true)) <| .c (.ld g2 (fun _ => (.tail _ (.head _))) Tryd.underlying22 rfl (B32_info _)) <| .c (.p1 1 (.slice ta m.length tc)) <| .c (.ld b5 (fun _ => (.tail _ (.tail _ (.head _)))) Tryd.underlying24 rfl (B64_info _)) <| .c (.ca fun _ w hk => hver.out _ _ w (F.keep _ _ hT hk.2) (hm.below hk.2)) <| .c (.ld g2 (fun _ => (.tail _ (.head _))) Tryd.underlying22 rfl (B32_info _)) <| .c (.p1 1 (.slice ta m.length tc)) <| .c (.ld b5 (fun _ => (.tail _ (.tail _ (.head _)))) Tryd.underlying24 rfl (B64_info _)) <| .c (.ca fun _ w hk => h7ver.out _ _ w (F.keep _ _ hT hk.2) (hm.below hk.2)) <| .c (.p2 48 (.bool v) 52 (.bool v)) <| .c (.p2 44 (.bool true) 53 (.bool true)) <| .c (.p1 54 (.bool true)) <| .c (.ca fun _ w hk => hwk.out w (F.keep _ _ hT hk.2)) <| .c (.p2 55 (.bool true) 56 (.bool true)) <| .c (.p1 57 (.bool true)) .nil) ?_
  intro _ V5 hJ _
  have hK : Kp [(g4, B64 (bdig (two a b)), 24), (g2, B32 (bdig y), 22), (b5, B64 (bdig (two R S)), 24), (b3, B32 (bdig n), 22)] w V5 := hJ.1
  clear hJ
  simp only [putL, Lv.val, Act.put, List.setIfInBounds_toArray, List.set_cons_succ, List.set_cons_zero]
  go_wp2
  go_ret
  exact ⟨rfl, hK.2⟩
set_option maxRecDepth 100000 in
set_option maxHeartbeats 1000000 in
theorem sreal_long {n : Nat} {z : Nat → Nat} {ta : Option Addr} {tc : Nat} {m : List Int} (hn : 200 < m.length) (w : World) : Calls Tryd.prog 3 #[.agg (B32 (bdig n)), .slice ta m.length tc, .agg (B64 z)] w fun x w' => x = .returned (.bool true) ∧ Below w.heap.size w w' := by
  have hki : (200 : Int) < (m.length : Int) := by omega
  go_enter Tryd.func3, Tryd.ntmps3
  go_wp2
  go_ret
  exact ⟨rfl, ((Below.refl _ _).alloc (Nat.le_refl _) _).alloc (by simp) _⟩
end Go.Proofs.YtgibllaifnnfkaaDoor
namespace Go.Proofs.YtgibllaifnnfkaaDoor
open Go Go.RowKit
theorem sreal_row {T : World → Prop} (F : Ste T) (G : Sgn T) (hwk : ∀ w, T w → Calls Tryd.prog 11 #[] w fun x w' => x = .returned (.bool true) ∧ Below w.heap.size w w') {n z : Nat} (hz : z < R512) {a : Option Addr} {len cap : Nat} {zs : List Int} {w : World} (h : IsRow .u8 w a len cap zs) (hT : T w) : Calls Tryd.prog 3 #[.agg (B32 (bdig n)), .slice a len cap, .agg (B64 (bdig z))] w fun x w' => x = .returned (.bool true) ∧ Below w.heap.size w w' := by
  obtain ⟨e, ht⟩ := txt_of_row h
  rw [← two_parts z]
  by_cases hn : (zs.take len).length ≤ 200
  · have := sreal_is F G hwk (n := n) (R := z % R256) (S := z / R256) (lo_lt z) (hi_lt hz) hn w hT ht
    rw [← e] at this
    exact this
  · have := sreal_long (n := n) (z := bdig (two (z % R256) (z / R256))) (ta := a) (tc := cap) (m := zs.take len) (by omega) w
    rw [← e] at this
    exact this
end Go.Proofs.YtgibllaifnnfkaaDoor
namespace Go.Proofs.YtgibllaifnnfkaaDoor
open Go.ChangeShapes Go.WideShapes Go.ChangeAt Go.RowKit
theorem cellsB64 : Tryd.prog.cellsOf 24 = 64 := by kernel_rfl
theorem vb_lt64 (f : Nat → Nat) (h : ∀ i, i < 64 → f i < 256) : vb f 64 < R512 := by rw [show R512 = 256 ^ 64 by decide]; exact vb_lt f 64 h
set_option maxRecDepth 100000 in
theorem open_b64 {H : Type} {enc : TypeId × Value → H} {W : World} {r : Reach} {b0 base : Nat} {spare : Nat → Bool} {held : Bool} {v : Value} {d : DataW H} {p : List MemPlace}
    (hval : Value.okWide Tryd.prog W r b0 24 v) (h : DataW.Trod enc Tryd.prog W base spare held 24 v d p) : ∃ n, n < R512 ∧ v = .agg (B64 (bdig n)) := by
  unfold Value.okWide at hval
  rw [Tryd.underlying24] at hval
  obtain ⟨cs, rfl, hsz, -⟩ := hval
  rw [cellsB64] at hsz
  obtain ⟨fuel, hf⟩ := h
  obtain ⟨xs, m, -, -, -, hxl, hx⟩ := DataW.trod_array Tryd.underlying24 hf
  rw [cellsU8] at hx
  have hc : ∀ i, i < 64 → ∃ k : Nat, k < 256 ∧ cs[i]? = some (.int .u8 (k : Int)) := fun i hi => by
    have h1 := hx i hi
    rw [List.getElem?_eq_getElem (by omega)] at h1
    obtain ⟨n, hn, -, hw⟩ := DataW.trod_int Tryd.underlying5 h1
    have hb := bounds_u8 hw
    rw [Nat.mul_one] at hn
    have hi' : i < cs.size := by omega
    have h2 : cs[i]? = some (.int .u8 n) := by
      have := congrArg (·[0]?) hn
      simp only [Value.cells, List.getElem?_take, List.getElem?_drop] at this
      simpa using this
    exact ⟨n.toNat, by omega, by rw [h2, Int.toNat_of_nonneg hb.1]⟩
  have hf : cs = B64 fun i => byteOf (cs.getD i undef) := by
    apply Array.ext_getElem?
    intro i
    by_cases hi : i < 64
    · obtain ⟨k, hk, e⟩ := hc i hi
      rw [B64_at _ i hi, e]
      simp [Array.getD_eq_getD_getElem?, e, byteOf]
    · rw [Array.getElem?_eq_none (by omega), Array.getElem?_eq_none (by rw [B64_size]; omega)]
  have hlt : ∀ i, i < 64 → byteOf (cs.getD i undef) < 256 := fun i hi => by
    obtain ⟨k, hk, e⟩ := hc i hi
    simp [Array.getD_eq_getD_getElem?, e, byteOf]; exact hk
  refine ⟨vb (fun i => byteOf (cs.getD i undef)) 64, vb_lt64 _ hlt, ?_⟩
  conv => lhs; rw [hf]
  rw [B64_ext fun i hi => (bdig_vb _ 64 hlt i hi).symm]
end Go.Proofs.YtgibllaifnnfkaaDoor
namespace Go.Proofs.YtgibllaifnnfkaaDoor
open Go Go.RowKit
theorem slice_old {w w' : World} {g : Nat} {a : Option Addr} {c : Nat} {m : List Int} (h : Txt w a c m) (hB : Below w.heap.size w w') (hg : w.heap.size ≤ g) : J.SliceOf w' g (.slice a m.length c) m := J.BytesV.slice (show J.BytesV w a m.length c m from h.1) hB hg
theorem slice_at {w : World} {g b o c : Nat} {m : List Int} (h : Txt w (some ⟨b, o, none⟩) c m) (hb : b ≠ g) : J.SliceOf w g (.slice (some ⟨b, o, none⟩) m.length c) m := by
  obtain ⟨⟨h1, h2, h3, h4, h5⟩, -⟩ := h
  refine ⟨_, m.length, c, rfl, rfl, h2, h3, h4, fun hp => ?_⟩
  obtain ⟨b', off, e, hr⟩ := h5 hp
  simp only [Option.some.injEq, Addr.mk.injEq] at e
  obtain ⟨rfl, rfl, -⟩ := e
  exact ⟨b, o, rfl, hb, hr⟩
theorem kp_grown {l : List (Nat × Array Value × TypeId)} {w0 w w' : World} {g : Nat} (h : Kp l w0 w) (hg : w.grownBy w' (some g)) (hb : w0.heap.size ≤ g) (hl : ∀ p ∈ l, p.1 ≠ g) : Kp l w0 w' :=
  ⟨fun p hp => by
    have h1 := h.1 p hp
    unfold Own
    rw [hg.block _ h1.lt (fun e => hl p hp (Option.some.inj e))]
    exact h1, J.below_grown h.2 hg h.2.size hb⟩
set_option maxRecDepth 100000 in
set_option maxHeartbeats 1000000 in
theorem osum_is {x : Int} (hx : 0 ≤ x ∧ x < 256) {p : Nat} {ta : Option Addr} {tc : Nat} {m : List Int} (hl : m.length ≤ 1000) (w : World) (hT : J.Tabs w) (hm : Txt w ta tc m) :
    Calls Tryd.prog 27 #[.int .u8 x, .agg (B32 (bdig p)), .slice ta m.length tc] w fun e w' => e = .returned (.agg (B32 (bdig (hn (x :: (by32 p ++ m)))))) ∧ Below w.heap.size w w' := by
  have hz := (zero_of_info zeroB32).1
  obtain ⟨y, Hy⟩ : ∃ y, Hid (hn (x :: (by32 p ++ m)) = y) := ⟨_, rfl⟩
  have hl := show Hid _ from hl
  have hx := show Hid _ from hx
  go_enter Tryd.func27, Tryd.ntmps27
  go_upto_region 1 with fail
  have hK := ((Kp.nil w).alloc (B32 (bdig p)) 22).alloc (B32 fun _ => 0) 22
  rw [World.size_alloc] at hK
  generalize (w.alloc (.cells (B32 (bdig p)) 22)).alloc (.cells (B32 fun _ => 0) 22) = W at *
  obtain ⟨bA, HbA⟩ : ∃ b, Hid (w.heap.size = b) := ⟨_, rfl⟩
  obtain ⟨bR, HbR⟩ : ∃ b, Hid (bA + 1 = b) := ⟨_, rfl⟩
  rw [HbA.out, HbR.out] at hK ⊢
  have hTx := hT.below hK.2
  have lt_bA := (hK.at bA (B32 (bdig p)) 22 (.tail _ (.head _))).lt
  have lt_bR := (hK.at bR (B32 fun _ => 0) 22 (.head _)).lt
  have hgt : 2 < W.heap.size ∧ 5 < W.heap.size := ⟨hTx.2.1, hTx.1.1⟩
  have hbs := show Hid _ from hK.2.size
  go_wp2_with fail
  refine (J.new_any W).mono ?_
  rintro e W1 ⟨rfl, hS, bw, hlt⟩
  have hK := hK.below bw
  have hTx := hTx.below bw
  obtain ⟨s, Hs⟩ : ∃ s, Hid (W.heap.size = s) := ⟨_, rfl⟩
  have hbs : Hid (w.heap.size ≤ s) := by show _ ≤ _; rw [← Hs.out]; exact hbs.out
  have hne : Hid (bA < s ∧ bR < s) := by show _ ∧ _; rw [← Hs.out]; exact ⟨lt_bA, lt_bR⟩
  have hgt : Hid (2 < s ∧ 5 < s) := by show _ ∧ _; rw [← Hs.out]; exact hgt
  rw [Hs.out] at hS hlt ⊢
  clear bw lt_bA lt_bR
  go_upto_region 2 with fail
  go_wp2_with fail
  have hS := hS.below (alloc_below W1 (.cells #[.int .u8 x] 5)) hlt
  have hsl := slice_at (g := s) (txt_byte (own_new W1 #[.int .u8 x] 5).rowAt hx.out) (by omega)
  have hK := hK.below (alloc_below W1 (.cells #[.int .u8 x] 5))
  have hTx := hTx.below (alloc_below W1 (.cells #[.int .u8 x] 5))
  refine (J.write_any s [] [x] _ _ _ _ hS hsl hTx hgt.out (by simp)).mono ?_
  rintro e W2 ⟨rfl, hS, hg⟩
  have hnl : ∀ p' ∈ [(bR, B32 fun _ => 0, 22), (bA, B32 (bdig p), 22)], p'.1 ≠ s := by
    have := hne.out
    intro p' hp'
    simp only [List.mem_cons, List.not_mem_nil, or_false] at hp'
    rcases hp' with rfl | rfl
    · exact Nat.ne_of_lt this.2
    · exact Nat.ne_of_lt this.1
  have hnl := show Hid _ from hnl
  have hK := kp_grown hK hg hbs.out hnl.out
  have hTx := hTx.grown hg hgt.out
  clear hg hsl hlt
  rw [List.nil_append] at hS
  go_upto_region 3 with fail
  go_wp2_with fail
  have hsl := slice_at (g := s) (show Txt W2 (some ⟨bA, 0, none⟩) 32 (by32 p) from ⟨by rw [by32_length]; exact bytes_own (hK.at bA (B32 (bdig p)) 22 (.tail _ (.head _))), fun e => by cases e⟩) (Nat.ne_of_lt hne.out.1)
  rw [by32_length] at hsl
  refine (J.write_any s [x] (by32 p) _ _ _ _ hS hsl hTx hgt.out (by rw [by32_length]; simp)).mono ?_
  rintro e W3 ⟨rfl, hS, hg⟩
  have hK := kp_grown hK hg hbs.out hnl.out
  have hTx := hTx.grown hg hgt.out
  clear hg hsl
  go_upto_region 4 with fail
  go_wp2_with fail
  refine (J.write_any s ([x] ++ by32 p) m _ _ _ _ hS (slice_old hm hK.2 hbs.out) hTx hgt.out (by have := hl.out; rw [List.length_append, by32_length]; simp; omega)).mono ?_
  rintro e W4 ⟨rfl, hS, hg⟩
  have hK := kp_grown hK hg hbs.out hnl.out
  have hTx := hTx.grown hg hgt.out
  clear hg
  go_upto_region 5 with fail
  go_wp2_with fail
  refine (J.sumM_any s _ _ hS hTx (by have := hl.out; rw [List.length_append, List.length_append, by32_length]; simp; omega)).mono ?_
  rintro e W5 ⟨rfl, bw⟩
  have hK := hK.below bw
  have e5 : (J.u8s (J.digest ([x] ++ by32 p ++ m))).toArray = B32 (bdig y) := by rw [← Hy.out, ← dig_hn]; rfl
  rw [e5]
  clear e5 bw
  go_wp2_with (refine wpList_store_own (op := { dst := none, op := _, type := _, pos := _, after := _, guard := _ }) rfl 22 (.tmp 6) (.tmp 20) rfl bR 0 (B32 (bdig y)) (by rfl) (by rfl) (hK.at bR (B32 fun _ => 0) 22 (.head _)) (B32_le _ _) (B32_info _) (B32_one _) (by rfl) ?_)
  refine bodyPost_ret (results_own Tryd.results27 _ _ bR (B32 (bdig y)) _ (by rfl) (own_setCells (hK.at bR (B32 fun _ => 0) 22 (.head _)) (B32_sizes _ _)) Tryd.underlying22 rfl (B32_info _)) rfl ⟨by rw [Hy.out], Below.setCells _ _ _ _ ?_ hK.2⟩
  have := HbA.out
  have := HbR.out
  omega
end Go.Proofs.YtgibllaifnnfkaaDoor
