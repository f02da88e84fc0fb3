/- Of the texts SV1, SM1, UD, US, TA, TS: what the card of this claim reaches. -/
import Derived.Test.YtgibllaifnnfkaaDoorXO23
import Derived.Test.YtgibllaifnnfkaaDoorXO4
import Derived.Test.YtgibllaifnnfkaaDoorXO20
namespace Go.Proofs.YtgibllaifnnfkaaDoor
open Go Go.RowKit
set_option maxRecDepth 100000 in
set_option maxHeartbeats 600000 in
theorem verify_gen {T : World → Prop} (F : Low T) {p R S k t : Nat} {f g : Nat → Nat} {e1 e2 : Int} {b0 v0 v : Bool} {ta : Option Addr} {tc : Nat} {m : List Int} (lR : Hid (R < R256)) (lS : Hid (S < R256)) (Hk : Hid (dn (by32 R ++ (by32 p ++ m)) % LL = k)) (hS : Hid (decide (S < LL) = b0))
    (hM : Hid (∀ w, T w → Calls Tryd.prog 23 #[.agg (B32 (bdig k)), .agg (B32 (bdig p))] w fun x w' => x = .returned (.tuple #[.agg (B32 f), .int .i64 e1]) ∧ Below w.heap.size w w')) (hA : Hid (e1 = 0 → (∀ w, T w → Calls Tryd.prog 24 #[.agg (B32 (bdig R)), .agg (B32 f)] w fun x w' => x = .returned (.tuple #[.agg (B32 g), .int .i64 e2]) ∧ Below w.heap.size w w')))
    (Ht : Hid (enc (Pt.times S BP) = t)) (heq : ∀ w, (Op.equalIn 10000 22 (.agg (B32 g)) (.agg (B32 (bdig t)))).run Tryd.prog w = .ok v0 w)
    (h0 : Hid (b0 = false → v = false)) (h1 : Hid ((e1 = 1 ∧ v = false) ∨ (e1 = 0 ∧ ((e2 = 1 ∧ v = false) ∨ (e2 = 0 ∧ (b0 = true → v0 = v)))))) (hl : m.length ≤ 1000) (w : World) (hT : T w) (hm : Txt w ta tc m) : Calls Tryd.prog 10 #[.agg (B32 (bdig p)), .slice ta m.length tc, .agg (B64 (bdig (two R S)))] w fun x w' => x = .returned (.bool v) ∧ Below w.heap.size w w' := by
  have hz := (zero_of_info zeroB32).1
  go_enter Tryd.func10, Tryd.ntmps10
  go_upto_region 1 with fail
  have hK := ((Kp.nil w).alloc (B32 (bdig p)) 22).alloc (B64 (bdig (two R S))) 24
  rw [World.size_alloc] at hK
  generalize (w.alloc (.cells (B32 (bdig p)) 22)).alloc (.cells (B64 (bdig (two R S))) 24) = W at *
  obtain ⟨bA, HbA⟩ : ∃ b, Hid (w.heap.size = b) := ⟨_, rfl⟩
  obtain ⟨bS, HbS⟩ : ∃ b, Hid (bA + 1 = b) := ⟨_, rfl⟩
  have le_bA : Hid (w.heap.size ≤ bA) := by show _ ≤ _; have := HbA.out; omega
  have le_bS : Hid (w.heap.size ≤ bS) := by show _ ≤ _; have := HbA.out; have := HbS.out; omega
  have ne_bA_bS : Hid (bA ≠ bS) := by show _ ≠ _; have := HbS.out; omega
  rw [HbA.out, HbS.out] at hK ⊢
  refine wp_region_lv 46 (fun _ => [(bS, B64 (bdig (two R S)), 24), (bA, B32 (bdig p), 22)]) [.v (.slice (some ⟨bS, 0, none⟩) 32 64), .v (.pointer (some ⟨bS, 0, none⟩)), .v (.agg (B32 (bdig R))), .v (.slice (some ⟨bS, 32, none⟩) 32 32), .v (.pointer (some ⟨bS, 32, none⟩)), .v (.agg (B32 (bdig S))), .mk (B32 fun _ => 0) (B32 (bdig R)) 22 8, .mk (B32 fun _ => 0) (B32 (bdig S)) 22 9, .o, .o] hK (by kernel_rfl) (by kernel_rfl) (by kernel_rfl) (by rfl) ?_ ?_
  · exact .c (.p1 5 (.pointer (some ⟨bS, 0, none⟩))) <| .c (.p1 12 (.slice (some ⟨bS, 0, none⟩) 32 64)) <| .c (.x [(13, .pointer (some ⟨bS, 0, none⟩))] fun _ _ _ _ _ hfx hkx hx => wp_load_mid 22 (.tmp 13) rfl bS 0 (hfx _ (.head _)) (B32 (bdig R)).toList _ (B64_lo2 lR.out (hkx.at bS (B64 (bdig (two R S))) 24 (.head _))) Tryd.underlying22 rfl (B32_len7 _) (hx _ _ rfl (Below.refl _ _))) <| .c (.p1 5 (.pointer (some ⟨bS, 0, none⟩))) <| .c (.p1 15 (.slice (some ⟨bS, 32, none⟩) 32 32)) <| .c (.x [(16, .pointer (some ⟨bS, 32, none⟩))] fun _ _ _ _ _ hfx hkx hx => wp_load_mid 22 (.tmp 16) rfl bS 32 (hfx _ (.head _)) (B32 (bdig S)).toList _ (B64_hi2 lR.out (hkx.at bS (B64 (bdig (two R S))) 24 (.head _))) Tryd.underlying22 rfl (B32_len7 _) (hx _ _ rfl (Below.refl _ _))) <| .c (.al hz) <| .c (.al hz) <| .c (.st 6 (B32_info _) (B32_one _)) <| .c (.st 7 (B32_info _) (B32_one _)) .nil
  intro vs V1 hJ hf
  obtain ⟨g2, hgg2⟩ := hf 6 _ _ rfl rfl
  obtain ⟨le0, apg2, owng2⟩ := hJ.got 6 hgg2
  have le_g2 := show Hid _ from le0
  clear le0
  obtain ⟨g3, hgg3⟩ := hf 7 _ _ rfl rfl
  obtain ⟨le0, apg3, owng3⟩ := hJ.got 7 hgg3
  have le_g3 := show Hid _ from le0
  clear le0
  have ne_g2_g3 := hJ.apart 6 7 hgg2 hgg3
  have ne_bS_g2 : Hid (bS ≠ g2) := apg2 (bS, B64 (bdig (two R S)), 24) (.head _)
  have ne_bA_g2 : Hid (bA ≠ g2) := apg2 (bA, B32 (bdig p), 22) (.tail _ (.head _))
  have ne_bS_g3 : Hid (bS ≠ g3) := apg3 (bS, B64 (bdig (two R S)), 24) (.head _)
  have ne_bA_g3 : Hid (bA ≠ g3) := apg3 (bA, B32 (bdig p), 22) (.tail _ (.head _))
  have hK : Kp [(g3, B32 (bdig S), 22), (g2, B32 (bdig R), 22), (bS, B64 (bdig (two R S)), 24), (bA, B32 (bdig p), 22)] w V1 := ((hJ.1.cons owng2).cons owng3)
  simp only [putL, Lv.val, Nat.zero_add, Nat.reduceAdd, hgg2, hgg3, Act.put, List.setIfInBounds_toArray, List.set_cons_succ, List.set_cons_zero]
  clear hJ hf hgg2 hgg3 apg2 apg3 owng2 owng3
  go_wp2_with (refine wpList_load_own (by rfl) 22 (.tmp 8) (by rfl) g3 (by rfl) (B32 (bdig S)) _ (hK.at g3 (B32 (bdig S)) 22 (.head _)) Tryd.underlying22 (by rfl) (B32_info _) ?_)
  refine (F.scheckA lS.out hS.out _ (F.keep _ _ hT hK.2)).mono ?_
  rintro e V4 ⟨rfl, bw⟩
  have hK := hK.below bw
  clear bw
  cases b0
  · go_wp2_with fail
    go_ret
    exact ⟨by first | rfl | (rw [h0.out (by simp)]; rfl), hK.2⟩
  go_upto_region 4 with fail
  refine wp_region_lv 46 (fun _ => [(g3, B32 (bdig S), 22), (g2, B32 (bdig R), 22), (bS, B64 (bdig (two R S)), 24), (bA, B32 (bdig p), 22)]) [.v (.agg (B32 (bdig R))), .v (.agg (B32 (bdig p))), .v (.slice ta m.length tc), .v (.agg (B32 (bdig k))), .v (.agg (B32 (bdig p))), .v (.tuple #[.agg (B32 f), .int .i64 (e1)]), .v (.tuple #[.agg (B32 f), .int .i64 (e1)]), .v (.agg (B32 f)), .v (.int .i64 (e1)), .mk (B32 fun _ => 0) (B32 f) 22 10, .o, .v (.int .i64 (e1))] hK (by kernel_rfl) (by kernel_rfl) (by kernel_rfl) (by rfl) ?_ ?_
  · exact .c (.ld g2 (fun _ => .tail _ (.head _)) Tryd.underlying22 rfl (B32_info _)) <| .c (.ld bA (fun _ => .tail _ (.tail _ (.tail _ (.head _)))) Tryd.underlying22 rfl (B32_info _)) <| .c (.p1 1 (.slice ta m.length tc)) <| .c (.ca fun _ _ hkx => bound_at F Hk hl _ (F.keep _ _ hT hkx.2) (hm.below hkx.2)) <| .c (.ld bA (fun _ => .tail _ (.tail _ (.tail _ (.head _)))) Tryd.underlying22 rfl (B32_info _)) <| .c (.ca fun _ _ hkx => hM.out _ (F.keep _ _ hT hkx.2)) <| .c (.p1 27 (.tuple #[.agg (B32 f), .int .i64 (e1)])) <| .c (.p1 21 (.tuple #[.agg (B32 f), .int .i64 (e1)])) <| .c (.p1 21 (.tuple #[.agg (B32 f), .int .i64 (e1)])) <| .c (.al hz) <| .c (.st 9 (B32_info _) (B32_one _)) <| .c (.p1 29 (.int .i64 (e1))) .nil
  intro vs V5 hJ hf
  obtain ⟨g6, hgg6⟩ := hf 9 _ _ rfl rfl
  obtain ⟨le0, apg6, owng6⟩ := hJ.got 9 hgg6
  have le_g6 := show Hid _ from le0
  clear le0
  have ne_g3_g6 : Hid (g3 ≠ g6) := apg6 (g3, B32 (bdig S), 22) (.head _)
  have ne_g2_g6 : Hid (g2 ≠ g6) := apg6 (g2, B32 (bdig R), 22) (.tail _ (.head _))
  have ne_bS_g6 : Hid (bS ≠ g6) := apg6 (bS, B64 (bdig (two R S)), 24) (.tail _ (.tail _ (.head _)))
  have ne_bA_g6 : Hid (bA ≠ g6) := apg6 (bA, B32 (bdig p), 22) (.tail _ (.tail _ (.tail _ (.head _))))
  have hK : Kp [(g6, B32 f, 22), (g3, B32 (bdig S), 22), (g2, B32 (bdig R), 22), (bS, B64 (bdig (two R S)), 24), (bA, B32 (bdig p), 22)] w V5 := (hJ.1.cons owng6)
  simp only [putL, Lv.val, Nat.zero_add, Nat.reduceAdd, hgg6, Act.put, List.setIfInBounds_toArray, List.set_cons_succ, List.set_cons_zero]
  clear hJ hf hgg6 apg6 owng6
  rcases h1.out with ⟨rfl, hv⟩ | ⟨rfl, h2⟩
  · replace hv := show Hid _ from hv
    go_wp2
    go_ret
    exact ⟨by first | rfl | (rw [hv.out]; rfl), hK.2⟩
  replace h2 := show Hid _ from h2
  go_upto_region 7 with fail
  go_wp2_with (first
    | refine wpList_load_own (by rfl) 22 (.tmp 7) (by rfl) g2 (by rfl) (B32 (bdig R)) _ (hK.at g2 (B32 (bdig R)) 22 (.tail _ (.tail _ (.head _)))) Tryd.underlying22 (by rfl) (B32_info _) ?_
    | refine wpList_load_own (by rfl) 22 (.tmp 9) (by rfl) g6 (by rfl) (B32 f) _ (hK.at g6 (B32 f) 22 (.head _)) Tryd.underlying22 (by rfl) (B32_info _) ?_)
  refine (hA.out (by simp) _ (F.keep _ _ hT hK.2)).mono ?_
  rintro e V7 ⟨rfl, bw⟩
  have hK := hK.below bw
  clear bw
  go_upto_region 8 with (refine wpList_store_new (by rfl) 22 (.tmp 11) (.tmp 36) (by rfl) _ (B32 g) (by rfl) (by rfl) (B32_info _) (B32_sizes _ _) (B32_one _) (by rfl) ?_)
  have lt_g6 := (hK.at g6 (B32 f) 22 (.head _)).lt
  have lt_g3 := (hK.at g3 (B32 (bdig S)) 22 (.tail _ (.head _))).lt
  have lt_g2 := (hK.at g2 (B32 (bdig R)) 22 (.tail _ (.tail _ (.head _)))).lt
  have lt_bS := (hK.at bS (B64 (bdig (two R S))) 24 (.tail _ (.tail _ (.tail _ (.head _))))).lt
  have lt_bA := (hK.at bA (B32 (bdig p)) 22 (.tail _ (.tail _ (.tail _ (.tail _ (.head _)))))).lt
  have le_b8 := show Hid _ from hK.2.size
  have hK := hK.alloc (B32 g) 22
  generalize V7.alloc (.cells (B32 g) 22) = V9 at *
  obtain ⟨b8, Hb8⟩ : ∃ b, Hid (V7.heap.size = b) := ⟨_, rfl⟩
  have ne_g6_b8 : Hid (g6 ≠ b8) := by show _ ≠ _; rw [← Hb8.out]; exact Nat.ne_of_lt lt_g6
  have ne_g3_b8 : Hid (g3 ≠ b8) := by show _ ≠ _; rw [← Hb8.out]; exact Nat.ne_of_lt lt_g3
  have ne_g2_b8 : Hid (g2 ≠ b8) := by show _ ≠ _; rw [← Hb8.out]; exact Nat.ne_of_lt lt_g2
  have ne_bS_b8 : Hid (bS ≠ b8) := by show _ ≠ _; rw [← Hb8.out]; exact Nat.ne_of_lt lt_bS
  have ne_bA_b8 : Hid (bA ≠ b8) := by show _ ≠ _; rw [← Hb8.out]; exact Nat.ne_of_lt lt_bA
  have le_b8 : Hid (w.heap.size ≤ b8) := by show _ ≤ _; rw [← Hb8.out]; exact le_b8.out
  rw [Hb8.out] at hK ⊢
  clear lt_g6 lt_g3 lt_g2 lt_bS lt_bA
  rcases h2.out with ⟨rfl, hv⟩ | ⟨rfl, hv⟩
  · replace hv := show Hid _ from hv
    refine wp_region_lv 46 (fun _ => [(b8, B32 g, 22), (g6, B32 f, 22), (g3, B32 (bdig S), 22), (g2, B32 (bdig R), 22), (bS, B64 (bdig (two R S)), 24), (bA, B32 (bdig p), 22)]) [.v (.int .i64 (1)), .v (.bool false), .v (.bool false), .v undef, .v undef, .v undef, .v undef, .v (.bool false), .v (.bool false)] hK (by kernel_rfl) (by kernel_rfl) (by kernel_rfl) (by rfl) ?_ ?_
    · exact .c (.p1 10 (.int .i64 (1))) <| .c (.p1 38 (.int .i64 (1))) <| .c (.p1 39 (.bool false)) <| .c .ps <| .c .ps <| .c .ps <| .c .ps <| .c (.p2 40 (.bool false) 44 (undef)) <| .c (.p1 45 (.bool false)) .nil
    intro _ V10 hJ _
    have hK : Kp [(b8, B32 g, 22), (g6, B32 f, 22), (g3, B32 (bdig S), 22), (g2, B32 (bdig R), 22), (bS, B64 (bdig (two R S)), 24), (bA, B32 (bdig p), 22)] w V10 := hJ.1
    clear hJ
    simp only [putL, Lv.val, Act.put, List.setIfInBounds_toArray, List.set_cons_succ, List.set_cons_zero]
    go_wp2
    go_ret
    exact ⟨by first | rfl | (rw [hv.out]; rfl), hK.2⟩
  · replace hv := show Hid _ from hv
    refine wp_region_lv 46 (fun _ => [(b8, B32 g, 22), (g6, B32 f, 22), (g3, B32 (bdig S), 22), (g2, B32 (bdig R), 22), (bS, B64 (bdig (two R S)), 24), (bA, B32 (bdig p), 22)]) [.v (.int .i64 (0)), .v (.bool true), .v (.bool true), .v (.agg (B32 g)), .v (.agg (B32 (bdig S))), .v (.agg (B32 (bdig t))), .v (.bool v0), .v (.bool v0), .v (.bool v0)] hK (by kernel_rfl) (by kernel_rfl) (by kernel_rfl) (by rfl) ?_ ?_
    · exact .c (.p1 10 (.int .i64 (0))) <| .c (.p1 38 (.int .i64 (0))) <| .c (.p1 39 (.bool true)) <| .c (.ld b8 (fun _ => .head _) Tryd.underlying22 rfl (B32_info _)) <| .c (.ld g3 (fun _ => .tail _ (.tail _ (.head _))) Tryd.underlying22 rfl (B32_info _)) <| .c (.ca fun _ _ hkx => F.baseA lS.out Ht.out _ (F.keep _ _ hT hkx.2)) <| .c (.p2 41 (.agg (B32 g)) 43 (.agg (B32 (bdig t)))) <| .c (.p2 40 (.bool true) 44 (.bool v0)) <| .c (.p1 45 (.bool v0)) .nil
    intro _ V10 hJ _
    have hK : Kp [(b8, B32 g, 22), (g6, B32 f, 22), (g3, B32 (bdig S), 22), (g2, B32 (bdig R), 22), (bS, B64 (bdig (two R S)), 24), (bA, B32 (bdig p), 22)] w V10 := hJ.1
    clear hJ
    simp only [putL, Lv.val, Act.put, List.setIfInBounds_toArray, List.set_cons_succ, List.set_cons_zero]
    go_wp2
    go_ret
    exact ⟨by first | rfl | (rw [hv.out (by simp)]; rfl), hK.2⟩
end Go.Proofs.YtgibllaifnnfkaaDoor
namespace Go.Proofs.YtgibllaifnnfkaaDoor
open Go Go.RowKit
theorem enc_R7 (P : Pt E5) : enc P < R256 := by rw [R256_HH]; exact enc_lt P
def numOf (n : Nat) : Nat := clamp (dn (by32 n) % R256)
def preOf (n : Nat) : Nat := dn (by32 n) / R256
def pubOf (n : Nat) : Nat := enc (Pt.times (numOf n) BP)
def bindOf (R p : Nat) (m : List Int) : Nat := dn (by32 R ++ (by32 p ++ m)) % LL
def onceOf (n : Nat) (m : List Int) : Nat := dn (by32 (preOf n) ++ m) % LL
def rOf (n : Nat) (m : List Int) : Nat := enc (Pt.times (onceOf n m) BP)
def sOf (n : Nat) (m : List Int) : Nat := (bindOf (rOf n m) (pubOf n) m * numOf n + onceOf n m) % LL
def sigOf (n : Nat) (m : List Int) : Nat := two (rOf n m) (sOf n m)
theorem pubOf_lt (n : Nat) : pubOf n < R256 := enc_R7 _
theorem rOf_lt (n : Nat) (m : List Int) : rOf n m < R256 := enc_R7 _
theorem sOf_lt (n : Nat) (m : List Int) : sOf n m < LL := Nat.mod_lt _ LL_pos
theorem sOf_lt2 (n : Nat) (m : List Int) : sOf n m < R256 := Nat.lt_trans (sOf_lt n m) LL_lt
def Signed (p : Nat) (m : List Int) (R S : Nat) : Prop := S < LL ∧ ∃ P Q : Pt E5, enc P = p ∧ enc Q = R ∧ enc (Q.add (Pt.times (bindOf R p m) P)) = enc (Pt.times S BP)
noncomputable def signedB (p : Nat) (m : List Int) (R S : Nat) : Bool := @decide (Signed p m R S) (Classical.propDecidable _)
theorem signedB_true {p : Nat} {m : List Int} {R S : Nat} : signedB p m R S = true ↔ Signed p m R S := by unfold signedB; exact @decide_eq_true_iff _ (Classical.propDecidable _)
theorem signedB_false {p : Nat} {m : List Int} {R S : Nat} (h : ¬ Signed p m R S) : signedB p m R S = false := by unfold signedB; exact @decide_eq_false _ (Classical.propDecidable _) h
theorem signedB_pts {P Q : Pt E5} {p : Nat} {m : List Int} {R S : Nat} (hS : S < LL) (hP : enc P = p) (hQ : enc Q = R) : signedB p m R S = decide (enc (Q.add (Pt.times (bindOf R p m) P)) = enc (Pt.times S BP)) := by
  by_cases h : enc (Q.add (Pt.times (bindOf R p m) P)) = enc (Pt.times S BP)
  · rw [decide_eq_true h]; exact signedB_true.2 ⟨hS, P, Q, hP, hQ, h⟩
  · rw [decide_eq_false h]
    refine signedB_false fun ⟨_, P', Q', hP', hQ', h'⟩ => h ?_
    rw [enc_inj (hP.trans hP'.symm), enc_inj (hQ.trans hQ'.symm)]; exact h'
theorem signedB_low {p : Nat} {m : List Int} {R S : Nat} (h : decide (S < LL) = false) : signedB p m R S = false := signedB_false fun hs => by
  rw [decide_eq_true hs.1] at h; cases h
theorem signedB_nop {p : Nat} {m : List Int} {R S : Nat} (h : ∀ P : Pt E5, enc P ≠ p) : signedB p m R S = false := signedB_false fun ⟨_, P, _, hP, _⟩ => h P hP
theorem signedB_nor {p : Nat} {m : List Int} {R S : Nat} (h : ∀ Q : Pt E5, enc Q ≠ R) : signedB p m R S = false := signedB_false fun ⟨_, _, Q, _, hQ, _⟩ => h Q hQ
theorem sign_eqn (n : Nat) (m : List Int) : (Pt.times (onceOf n m) BP).add (Pt.times (bindOf (rOf n m) (pubOf n) m) (Pt.times (numOf n) BP)) = Pt.times (sOf n m) BP := by
  unfold sOf
  generalize bindOf (rOf n m) (pubOf n) m = k
  generalize numOf n = c
  generalize onceOf n m = r
  rw [Pt.times_mod base_L, Pt.times_add, Nat.mul_comm, Pt.times_mul, Pt.add_comm]
theorem sign_signed (n : Nat) (m : List Int) : signedB (pubOf n) m (rOf n m) (sOf n m) = true :=
  signedB_true.2 ⟨sOf_lt n m, Pt.times (numOf n) BP, Pt.times (onceOf n m) BP, rfl, rfl, by rw [sign_eqn]⟩
section
variable {T : World → Prop} (F : Low T)
include F
theorem public_is (n : Nat) (w : World) (hT : T w) : Calls Tryd.prog 7 #[.agg (B32 (bdig n))] w fun x w' => x = .returned (.agg (B32 (bdig (pubOf n)))) ∧ Below w.heap.size w w' :=
  public_at F (lo := dn (by32 n) % R256) (hi := preOf n) (c := numOf n) (two_parts _).symm (lo_lt _) rfl rfl w hT
theorem sign_is (n : Nat) {ta : Option Addr} {tc : Nat} {m : List Int} (hl : m.length ≤ 1000) (w : World) (hT : T w) (hm : Txt w ta tc m) : Calls Tryd.prog 8 #[.agg (B32 (bdig n)), .slice ta m.length tc] w fun x w' => x = .returned (.agg (B64 (bdig (sigOf n m)))) ∧ Below w.heap.size w w' :=
  sign_at F (lo := dn (by32 n) % R256) (hi := preOf n) (c := numOf n) (y := pubOf n) (r := onceOf n m) (R := rOf n m) (k := bindOf (rOf n m) (pubOf n) m) (S := sOf n m) (two_parts _).symm (lo_lt _) rfl rfl rfl rfl rfl rfl hl w hT hm
theorem verify_is {p R S : Nat} {ta : Option Addr} {tc : Nat} {m : List Int} (lp : p < R256) (lR : R < R256) (lS : S < R256) (hl : m.length ≤ 1000) (w : World) (hT : T w) (hm : Txt w ta tc m) : Calls Tryd.prog 10 #[.agg (B32 (bdig p)), .slice ta m.length tc, .agg (B64 (bdig (two R S)))] w fun x w' => x = .returned (.bool (signedB p m R S)) ∧ Below w.heap.size w w' := by
  have lk : bindOf R p m < R256 := lt_of_modL
  have z0 : B32 (fun _ => 0) = B32 (bdig 0) := B32_ext fun i _ => (bdig_zero i).symm
  have lt := enc_R7 (Pt.times S BP)
  by_cases hp : ∃ P : Pt E5, enc P = p
  · obtain ⟨P, rfl⟩ := hp
    by_cases hR : ∃ Q : Pt E5, enc Q = R
    · obtain ⟨Q, rfl⟩ := hR
      refine verify_gen F lR lS rfl rfl (fun w hT => F.mul _ lk P w hT) (fun _ w hT => F.add Q _ w hT) rfl (fun w => B32_eq _ _ (enc_R7 _) lt w) (fun h => signedB_low h) (.inr ⟨rfl, .inr ⟨rfl, fun h => ?_⟩⟩) hl w hT hm
      exact (signedB_pts (of_decide_eq_true h) rfl rfl).symm
    · refine verify_gen F lR lS rfl rfl (fun w hT => F.mul _ lk P w hT) (fun _ w hT => F.add_not R _ lR (enc_R7 _) (.inl fun Q e => hR ⟨Q, e⟩) w hT) rfl (fun w => by rw [z0]; exact B32_eq _ _ (by decide) lt w) (fun h => signedB_low h) (.inr ⟨rfl, .inl ⟨rfl, signedB_nor fun Q e => hR ⟨Q, e⟩⟩⟩) hl w hT hm
  · have hn : ∀ P : Pt E5, enc P ≠ p := fun P e => hp ⟨P, e⟩
    exact verify_gen F (f := fun _ => 0) (g := bdig 0) (e1 := 1) (e2 := 0) lR lS rfl rfl (fun w hT => F.mul_not _ p lk lp hn w hT) (fun h => by cases h) rfl (fun w => B32_eq _ _ (by decide) lt w) (fun h => signedB_low h) (.inl ⟨rfl, signedB_nop hn⟩) hl w hT hm
end
end Go.Proofs.YtgibllaifnnfkaaDoor
namespace Go.Proofs.YtgibllaifnnfkaaDoor
open Go Go.RowKit
def opub (n : Nat) : Nat := hn (1 :: by32 n)
def oR (p : Nat) (m : List Int) : Nat := hn (2 :: (by32 p ++ m))
def oS (p : Nat) (m : List Int) : Nat := hn (3 :: (by32 p ++ m))
noncomputable def pubK (kind : Int) (n : Nat) : Nat := if kind = 1 then pubOf n else opub n
noncomputable def sgR (kind : Int) (n : Nat) (m : List Int) : Nat := if kind = 1 then rOf n m else oR (opub n) m
noncomputable def sgS (kind : Int) (n : Nat) (m : List Int) : Nat := if kind = 1 then sOf n m else oS (opub n) m
noncomputable def verK (kind : Int) (p : Nat) (m : List Int) (R S : Nat) : Bool := if kind = 1 then signedB p m R S else if kind = 2 then decide (two R S = two (oR p m) (oS p m)) else false
theorem opub_lt (n : Nat) : opub n < R256 := hn_lt _
theorem oR_lt (p : Nat) (m : List Int) : oR p m < R256 := hn_lt _
theorem oS_lt (p : Nat) (m : List Int) : oS p m < R256 := hn_lt _
theorem pubK_lt {kind : Int} (h : kind = 1 ∨ kind = 2) (n : Nat) : pubK kind n < R256 := by
  rcases h with rfl | rfl
  · rw [show pubK 1 n = pubOf n from if_pos rfl]
    exact pubOf_lt n
  · rw [show pubK 2 n = opub n from if_neg (by decide)]
    exact opub_lt n
theorem sgR_lt {kind : Int} (h : kind = 1 ∨ kind = 2) (n : Nat) (m : List Int) : sgR kind n m < R256 := by
  rcases h with rfl | rfl
  · rw [show sgR 1 n m = rOf n m from if_pos rfl]
    exact rOf_lt n m
  · rw [show sgR 2 n m = oR (opub n) m from if_neg (by decide)]
    exact oR_lt _ _
theorem sgS_lt {kind : Int} (h : kind = 1 ∨ kind = 2) (n : Nat) (m : List Int) : sgS kind n m < R256 := by
  rcases h with rfl | rfl
  · rw [show sgS 1 n m = sOf n m from if_pos rfl]
    exact sOf_lt2 n m
  · rw [show sgS 2 n m = oS (opub n) m from if_neg (by decide)]
    exact oS_lt _ _
theorem verK_own {kind : Int} (h : kind = 1 ∨ kind = 2) (n : Nat) (m : List Int) : verK kind (pubK kind n) m (sgR kind n m) (sgS kind n m) = true := by
  rcases h with rfl | rfl
  · rw [show pubK 1 n = pubOf n from if_pos rfl, show sgR 1 n m = rOf n m from if_pos rfl, show sgS 1 n m = sOf n m from if_pos rfl, show verK 1 (pubOf n) m (rOf n m) (sOf n m) = signedB (pubOf n) m (rOf n m) (sOf n m) from if_pos rfl]
    exact sign_signed n m
  · rw [show pubK 2 n = opub n from if_neg (by decide), show sgR 2 n m = oR (opub n) m from if_neg (by decide), show sgS 2 n m = oS (opub n) m from if_neg (by decide)]
    unfold verK
    rw [if_neg (by decide), if_pos rfl]
    exact decide_eq_true rfl
theorem infoE5 : (Tryd.prog.info? 5).map (fun i => (i.size, i.zero.isSome)) = some (1, true) := by kernel_rfl
end Go.Proofs.YtgibllaifnnfkaaDoor
namespace Go.Proofs.YtgibllaifnnfkaaDoor
open Go Go.RowKit
structure Ste (T : World → Prop) : Prop where
  keep : ∀ w w', T w → Below w.heap.size w w' → T w'
  pub : ∀ (kind : Int), kind = 1 ∨ kind = 2 → ∀ (n : Nat) w, T w → Calls Tryd.prog 5 #[.int .i64 kind, .agg (B32 (bdig n))] w fun x w' => x = .returned (.tuple #[.agg (B32 (bdig (pubK kind n))), .int .i64 0]) ∧ Below w.heap.size w w'
  pub_no : ∀ (kind : Int), kind ≠ 1 → kind ≠ 2 → ∀ (n : Nat) w, T w → Calls Tryd.prog 5 #[.int .i64 kind, .agg (B32 (bdig n))] w fun x w' => x = .returned (.tuple #[.agg (B32 fun _ => 0), .int .i64 1]) ∧ Below w.heap.size w w'
  sgn : ∀ (kind : Int), kind = 1 ∨ kind = 2 → ∀ (n : Nat) (ta : Option Addr) (tc : Nat) (m : List Int), m.length ≤ 1000 → ∀ w, T w → Txt w ta tc m → Calls Tryd.prog 6 #[.int .i64 kind, .agg (B32 (bdig n)), .slice ta m.length tc] w fun x w' => x = .returned (.tuple #[.agg (B64 (bdig (two (sgR kind n m) (sgS kind n m)))), .int .i64 0]) ∧ Below w.heap.size w w'
  sgn_no : ∀ (kind : Int), kind ≠ 1 → kind ≠ 2 → ∀ (n : Nat) (ta : Option Addr) (tc : Nat) (m : List Int), m.length ≤ 1000 → ∀ w, T w → Txt w ta tc m → Calls Tryd.prog 6 #[.int .i64 kind, .agg (B32 (bdig n)), .slice ta m.length tc] w fun x w' => x = .returned (.tuple #[.agg (B64 fun _ => 0), .int .i64 1]) ∧ Below w.heap.size w w'
  ver : ∀ (kind : Int) (p R S : Nat) (ta : Option Addr) (tc : Nat) (m : List Int), p < R256 → R < R256 → S < R256 → m.length ≤ 1000 → ∀ w, T w → Txt w ta tc m → Calls Tryd.prog 9 #[.int .i64 kind, .agg (B32 (bdig p)), .slice ta m.length tc, .agg (B64 (bdig (two R S)))] w fun x w' => x = .returned (.bool (verK kind p m R S)) ∧ Below w.heap.size w w'
end Go.Proofs.YtgibllaifnnfkaaDoor
namespace Go.Proofs.YtgibllaifnnfkaaDoor
open Go Go.RowKit
def obR (base : Nat) (m : List Int) : Rel where
  r := fun w v => H.OwnBytes w base v m
  loc := fun w w' v hg h => by
    obtain ⟨h1, h2 | ⟨g', cap, cur, h2, h3, h4, h5⟩⟩ := h
    · exact ⟨h1, .inl h2⟩
    · refine ⟨h1, .inr ⟨g', cap, cur, h2, h3, ?_, h5⟩⟩
      rw [hg g' (by rw [h2]; exact .head _)]
      exact h4
theorem blk_own {v : Value} {g : Nat} (h : v.ownBlock = some g) : g ∈ blks v := by
  cases v with
  | slice a n c =>
    cases a with
    | none => cases h
    | some a =>
      obtain rfl : a.block = g := by simpa [Value.ownBlock] using h
      exact .head _
  | _ => cases h
theorem info_u8 : ∃ i, Tryd.prog.info? 5 = some i ∧ i.zero = some (.int .u8 0) ∧ i.size = 1 ∧ i.bytes = 1 := by
  have := H.info5
  cases hq : Tryd.prog.info? 5 with
  | none => simp [hq] at this
  | some i => exact ⟨i, rfl, by simp [hq] at this; exact this⟩
theorem app_is {ρ : Operand → Value} {o : Oper} (s x : Operand) (ho : o.op = .call { callee := .builtin .append, args := #[s, x], argTypes := #[23, 23] }) {w : World} {base : Nat} {v : Value} {xs m : List Int} (hs : ρ s = v) (hown : H.OwnBytes w base v xs) (hx : Tx w (ρ x) m) (hl : xs.length + m.length ≤ 1099511627776) (hbase : base ≤ w.heap.size) :
    OpV Tryd.prog o ρ w fun v' w' => H.OwnBytes w' base v' (xs ++ m) ∧ (∃ r, w.grownBy w' r ∧ ∀ g, r = some g → g ∈ blks v) ∧ ∀ g ∈ blks v', g ∈ blks v ∨ w.heap.size ≤ g ∧ g < w'.heap.size := by
  obtain ⟨i, hi, hz, hsize, hby⟩ := info_u8
  obtain ⟨sa, cap, ex, hm, hn⟩ := hx
  cases sa with
  | none =>
    obtain rfl := hn rfl
    have h0 : m.length = 0 := by
      rcases Nat.eq_zero_or_pos m.length with h | h
      · exact h
      · obtain ⟨b, off, e, _⟩ := hm.2.2.2.2 h; cases e
    obtain rfl : m = [] := List.eq_nil_of_length_eq_zero h0
    have hrun := run_append_owned_none (P := Tryd.prog) (w := w) base 23 o.type 5 i 1 Tryd.underlying23 hi v xs.length (H.u8s xs) hown
    have ex' : ρ x = .slice none 0 0 := ex
    unfold OpV
    simp [execOp, ho, resolve, invoke, builtin, hs, ex', hrun, Result.andThen]
    exact ⟨hown, ⟨none, ⟨rfl, rfl, rfl, Nat.le_refl _, fun _ _ _ => rfl⟩, fun g e => by cases e⟩, fun g hg => .inl hg⟩
  | some ad =>
    obtain ⟨v', w', hr, h2, h3, -, h5⟩ := run_append_own_at (P := Tryd.prog) w base 23 o.type 5 i (.int .u8 0) 1 1 Tryd.underlying23 hi hz hsize hby rfl (by decide) v xs.length (H.u8s xs) hown ad m.length cap (H.u8s m) (by rw [H.u8s, List.length_map]; omega) (fun j u hu => by
      have hj : j < m.length := by
        have := (List.getElem?_eq_some_iff.1 hu).1
        simpa [H.u8s] using this
      obtain ⟨b, off, e, hr⟩ := hm.2.2.2.2 (by omega)
      simp only [Option.some.injEq] at e
      rw [e, Addr.add_mid]; exact hr j u hu) (H.u8s_one _) (by unfold maxLen; omega) (by omega) hbase
    unfold OpV execOp
    simp only [ho, resolve, invoke, builtin, Sem.run_bind, Sem.run_pure, Result.andThen_ok, List.map_toArray, List.map_cons, List.map_nil, hs, ex, hr]
    have e : xs.length + m.length = (xs ++ m).length := by rw [List.length_append]
    refine ⟨?_, ⟨_, h3, fun g hg => blk_own hg⟩, fun g hg => ?_⟩
    · unfold H.OwnBytes
      rw [← e, H.u8s, List.map_append]
      exact h2
    · obtain ⟨-, ⟨rfl, -⟩ | ⟨b, c, cur, rfl, -, h6, -⟩⟩ := h2
      · cases hg
      · obtain rfl : g = b := by simpa [blks] using hg
        rcases h5 with h5 | h5
        · exact .inl (blk_own (by rw [← h5]; rfl))
        · obtain rfl : g = w.heap.size := by simpa [Value.ownBlock] using h5
          exact .inr ⟨Nat.le_refl _, (Array.getElem?_eq_some_iff.1 h6).1⟩
section
variable {ops : Array Oper} {a0 : Act} {l : (Nat → Bool) → Kl} {w0 : World} {T : List Lv} {i : Nat} {d : Option Tmp} {τ : TypeId} {p : String} {af : Array Edge} {g : Option (Nat × Bool)}
theorem Go1.ab {s x : Operand} {xs m : List Int} {R' : Rel} (k : Nat) (hm : ∀ L vs w, At ops l w0 T i ⟨d, .call { callee := .builtin .append, args := #[s, x], argTypes := #[23, 23] }, τ, p, af, g⟩ L vs w → Tx w (envOf ops T vs a0 af x) m) (hR : ∀ w v, H.OwnBytes w w0.heap.size v (xs ++ m) → R'.r w v) (hn : xs.length + m.length ≤ 1099511627776)
    (hk : lvAt T k = .od (obR w0.heap.size xs) i := by rfl) (ht : lvAt T i = .ow R' ∨ ∃ z, lvAt T i = .od R' z := by first | exact .inl rfl | exact .inr ⟨_, rfl⟩) (hd : (af.toList.any fun e => e.on == k && Region.binds .any e) = true := by rfl) (hs : ∀ vs, envOf ops T vs a0 af s = vs k := by intro _; kernel_rfl)
    (hw : wantC ops T ⟨d, .call { callee := .builtin .append, args := #[s, x], argTypes := #[23, 23] }, τ, p, af, g⟩ = some true := by rfl) (hf : Lv.free T i = true := by rfl) (hl : ∀ L, l (lset L i true) = l L := by intro _; rfl) : Go1 Tryd.prog ops a0 l w0 T i ⟨d, .call { callee := .builtin .append, args := #[s, x], argTypes := #[23, 23] }, τ, p, af, g⟩ :=
  Go1.on k (fun L vs w a hA he hr => (app_is s x rfl ((he s (by simp [Op.operands, Call.operands])).trans (hs vs)) hr (by rw [he x (by simp [Op.operands, Call.operands])]; exact hm L vs w hA) hn hA.j.kp.2.size).mono fun v w' ⟨h1, h2, h3⟩ => ⟨hR _ _ h1, h2, h3⟩) hk ht hd hw hf hl
theorem Go1.bo {len : Nat} {parts : Array (Nat × Operand)} (xs : List Int) {R' : Rel} (hR : ∀ w v, H.OwnBytes w w0.heap.size v xs → R'.r w v) (hps : ∀ vs, parts.toList.map (fun x => envOf ops T vs a0 af x.2) = H.u8s xs := by intro _; kernel_rfl)
    (ht : lvAt T i = .ow R' ∨ ∃ z, lvAt T i = .od R' z := by first | exact .inl rfl | exact .inr ⟨_, rfl⟩) (hlen : len = xs.length := by rfl) (hpos : decide (0 < len ∧ len ≤ 2 ^ 24) = true := by rfl) (hz : zips parts = true := by rfl)
    (hw : wantC ops T ⟨d, .buildSlice 23 len parts, τ, p, af, g⟩ = some true := by rfl) (hf : Lv.free T i = true := by rfl) (hl : ∀ L, l (lset L i true) = l L := by intro _; rfl) : Go1 Tryd.prog ops a0 l w0 T i ⟨d, .buildSlice 23 len parts, τ, p, af, g⟩ :=
  info_u8.elim fun ie hI => Go1.nw (fun L vs w a hA he => by
    have hie := hI.1
    have hzz := hI.2.1
    have hsz := hI.2.2.1
    have hpos' := of_decide_eq_true hpos
    have hev : parts.toList.map (fun x => a.eval x.2) = H.u8s xs := by
      rw [← hps vs]
      refine List.map_congr_left fun x hx => he x.2 ?_
      simp only [Op.operands, List.mem_toArray, List.mem_map]
      exact ⟨x, hx, rfl⟩
    have hone : ∀ v ∈ H.u8s xs, v.cells = #[v] := fun v hv => by
      obtain ⟨x, -, rfl⟩ := List.mem_map.1 hv
      rfl
    have hrun := run_buildSlice w 23 5 len (parts.map fun (i, x) => (i, a.eval x)) (H.u8s xs).toArray ie _ Tryd.underlying23 hie hzz (by rw [hsz]; omega) (by rw [hsz]; omega) (by
      rw [zips_at hz a.eval hev, hsz]
      exact Great.fill_flat _ _ hone (by simp [hlen, H.u8s]))
    unfold OpV execOp
    simp only [Sem.run_bind, hrun, Result.andThen_ok, Sem.run_pure]
    subst hlen
    refine ⟨hR _ _ ⟨by simp [H.u8s], .inr ⟨w.heap.size, xs.length, (H.u8s xs).toArray, rfl, hA.j.kp.2.size, own_new w _ _, Nat.le_refl _, by unfold maxLen; omega, by simp [H.u8s], by rw [Nat.mul_one]; exact List.take_of_length_le (by simp [H.u8s])⟩⟩, fun g hg => ?_, (Below.refl _ _).alloc (Nat.le_refl _) _⟩
    obtain rfl : g = w.heap.size := by simpa [blks] using hg
    exact ⟨Nat.le_refl _, by simp⟩) ht hw hf hl
end
theorem ob_id {base : Nat} {m : List Int} (w : World) (v : Value) (h : H.OwnBytes w base v m) : (obR base m).r w v := h
theorem ob_tx {base : Nat} {m : List Int} (hb : H.Bys m) (w : World) (v : Value) (h : H.OwnBytes w base v m) : (txR m).r w v := by
  obtain ⟨a, c, rfl, hv⟩ := h.form hb
  exact ⟨a, c, rfl, hv, own_none h⟩
end Go.Proofs.YtgibllaifnnfkaaDoor
namespace Go.Proofs.YtgibllaifnnfkaaDoor
open Go Go.RowKit
theorem run_store_cell {P : Program} {w : World} {b o : Nat} {ty : TypeId} {v : Value} (ht : w.there b o 1) (hi : (P.info? ty).map (·.size) = some 1) (h1 : v.oneCell' = true) : (storeVar ty ⟨b, o, none⟩ v).run P w = .ok () (w.setCell ⟨b, o, none⟩ v) := by
  have hc : v.cells = #[v] := by cases v <;> first | rfl | cases h1
  have h := run_storeVar_mid (P := P) w b o ty #[v] ht hi (by simp [h1])
  unfold storeVar at *
  rw [hc]
  exact h
section
variable {P : Program} {ops : Array Oper} {a0 : Act} {l : (Nat → Bool) → Kl} {w0 : World} {T : List Lv} {i : Nat} {τ : TypeId} {p : String} {af : Array Edge} {g : Option (Nat × Bool)}
def OvC (l : (Nat → Bool) → Kl) (i b : Nat) (f : (Nat → Bool) → Array Value) (t : TypeId) : Prop := ∀ L : Nat → Bool, L i = false → (b, f L, t) ∈ l L ∧ ∀ p ∈ l (lset L i true), p = (b, f (lset L i true), t) ∨ p ∈ l L ∧ p.1 ≠ b
theorem OvC.hr {b : Nat} {f : (Nat → Bool) → Array Value} {t : TypeId} {r : (Nat → Bool) → Kl} (hl : ∀ L, l L = (b, f L, t) :: r L) (hr : ∀ L, r (lset L i true) = r L) (hne : ∀ L, ∀ p ∈ r L, p.1 ≠ b) : OvC l i b f t := fun L hn => by
  refine ⟨by rw [hl]; exact .head _, fun p hp => ?_⟩
  rw [hl, hr] at hp
  rcases List.mem_cons.1 hp with rfl | hp
  · exact .inl rfl
  · exact .inr ⟨by rw [hl]; exact .tail _ hp, hne L p hp⟩
theorem Go1.sc {ty t : TypeId} {x y : Operand} (b o : Nat) (f : (Nat → Bool) → Array Value) (v : Value) (hv : OvC l i b f t) (hset : ∀ L, L i = false → f (lset L i true) = (f L).setIfInBounds o v) (ho : ∀ L, o < (f L).size) (hb : w0.heap.size ≤ b) (hi : (P.info? ty).map (·.size) = some 1) (h1 : v.oneCell' = true := by rfl)
    (hy : ∀ vs, envOf ops T vs a0 af y = v := by intro _; kernel_rfl) (hx : ∀ vs, envOf ops T vs a0 af x = .pointer (some ⟨b, o, none⟩) := by intro _; kernel_rfl) (hm : notMk (lvAt T i) = true := by rfl) (hf : Lv.free T i = true := by rfl)
    (hw : wantC ops T ⟨none, .store ty x y, τ, p, af, g⟩ = some true := by rfl) : Go1 P ops a0 l w0 T i ⟨none, .store ty x y, τ, p, af, g⟩ :=
  Go1.of hw fun L vs w a K _ hA he hK => by
    obtain ⟨hmem, hch⟩ := hv L hA.new
    have hx' : a.eval x = .pointer (some ⟨b, o, none⟩) := (he x (by simp [Op.operands])).trans (hx vs)
    have hy' : a.eval y = v := (he y (by simp [Op.operands])).trans (hy vs)
    have h4 := hA.j.kp.1 _ hmem
    have hth : w.there b o 1 := h4.there o 1 (ho L)
    unfold OpV execOp
    simp only [hx', hy', Instr.storeAt, Instr.sureAddr, Sem.run_bind, Sem.run_pure, Result.andThen_ok, run_store_cell hth hi h1]
    exact hK _ _ (.inl rfl) (hA.j.over hA.new hf (notMk_spec hm) hmem hch (fun h => by rw [hset L hA.new]; exact h.setCell o v) (grown_setCellQ w b o v) (hA.j.kp.2.setCell hb v))
theorem Go1.lc {d : Option Tmp} {ty : TypeId} {x : Operand} {v : Value} (b o : Nat) (hc : ∀ L w, Kp (l L) w0 w → w.cell? ⟨b, o, none⟩ = some v) (hr : ∀ (w : World), w.cell? ⟨b, o, none⟩ = some v → (loadVar ty ⟨b, o, none⟩).run P w = .ok v w)
    (hx : ∀ vs, envOf ops T vs a0 af x = .pointer (some ⟨b, o, none⟩) := by intro _; kernel_rfl) (ht : lvAt T i = .v v := by rfl)
    (hw : wantC ops T ⟨d, .load ty x, τ, p, af, g⟩ = some true := by rfl) (hf : Lv.free T i = true := by rfl) (hl : ∀ L, l (lset L i true) = l L := by intro _; rfl) : Go1 P ops a0 l w0 T i ⟨d, .load ty x, τ, p, af, g⟩ :=
  Go1.keep (fun L vs w a _ hA he => by
    have hx' := (he x (by simp [Op.operands])).trans (hx vs)
    unfold OpV execOp
    simp only [hx', Instr.loadAt, Instr.sureAddr, Sem.run_bind, Sem.run_pure, Result.andThen_ok, hr w (hc L w hA.j.kp)]
    exact ⟨.inr (by rw [ht]; rfl), Below.refl _ _⟩) hw (by rw [ht]; rfl) hf hl
end
theorem load_u8 {b o : Nat} {x : Int} (w : World) (h : w.cell? ⟨b, o, none⟩ = some (.int .u8 x)) : (loadVar 5 ⟨b, o, none⟩).run Tryd.prog w = .ok (.int .u8 x) w := by
  go_simp
theorem one_u8 : (Tryd.prog.info? 5).map (·.size) = some 1 := by kernel_rfl
end Go.Proofs.YtgibllaifnnfkaaDoor
