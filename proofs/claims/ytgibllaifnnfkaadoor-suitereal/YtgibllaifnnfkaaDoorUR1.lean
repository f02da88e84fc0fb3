/- The law of the real kind, over contracts. -/
import Derived.Test.YtgibllaifnnfkaaDoorUS
namespace Go.Proofs.YtgibllaifnnfkaaDoor
open Go Go.RowKit
/-- Layer 7's functions, by what they answer. -/
structure Sgn (T : World → Prop) : Prop where
  pub : ∀ (n : Nat) w, T w → Calls Tryd.prog 7 #[.agg (B32 (bdig n))] w fun x w' => x = .returned (.agg (B32 (bdig (pubOf n)))) ∧ Below w.heap.size w w'
  sgn : ∀ (n : Nat) (ta : Option Addr) (tc : Nat) (m : List Int), m.length ≤ 1000 → ∀ w, T w → Txt w ta tc m → Calls Tryd.prog 8 #[.agg (B32 (bdig n)), .slice ta m.length tc] w fun x w' => x = .returned (.agg (B64 (bdig (sigOf n m)))) ∧ Below w.heap.size w w'
  ver : ∀ (p R S : Nat) (ta : Option Addr) (tc : Nat) (m : List Int), p < R256 → R < R256 → S < R256 → m.length ≤ 1000 → ∀ w, T w → Txt w ta tc m → Calls Tryd.prog 10 #[.agg (B32 (bdig p)), .slice ta m.length tc, .agg (B64 (bdig (two R S)))] w fun x w' => x = .returned (.bool (signedB p m R S)) ∧ Below w.heap.size w w'
set_option maxRecDepth 100000 in
set_option maxHeartbeats 2000000 in
theorem sreal_is {T : World → Prop} (F : Ste T) (G : Sgn T) (hwk : ∀ w, T w → Calls Tryd.prog 11 #[] w fun x w' => x = .returned (.bool true) ∧ Below w.heap.size w w') {n R S : Nat} {ta : Option Addr} {tc : Nat} {m : List Int} (lR : R < R256) (lS : S < R256) (hn : m.length ≤ 200) (w : World) (hT : T w) (hm : Txt w ta tc m) : Calls Tryd.prog 3 #[.agg (B32 (bdig n)), .slice ta m.length tc, .agg (B64 (bdig (two R S)))] w fun x w' => x = .returned (.bool true) ∧ Below w.heap.size w w' := by
  have hz := (zero_of_info zeroB32).1
  have hz64 := (zero_of_info zeroB64).1
  have hki : ¬ (200 : Int) < (m.length : Int) := by omega
  have hki' : decide ((200 : Int) < (m.length : Int)) = false := decide_eq_false hki
  have hl1 : Hid (m.length ≤ 1000) := by show _ ≤ _; omega
  replace hwk := show Hid _ from hwk
  obtain ⟨y, Hy⟩ : ∃ y, Hid (pubOf n = y) := ⟨_, rfl⟩
  obtain ⟨a, Ha⟩ : ∃ a, Hid (rOf n m = a) := ⟨_, rfl⟩
  obtain ⟨b, Hb⟩ : ∃ b, Hid (sOf n m = b) := ⟨_, rfl⟩
  obtain ⟨v, Hv⟩ : ∃ v, Hid (signedB y m R S = v) := ⟨_, rfl⟩
  have ly : Hid (y < R256) := by show _ < _; rw [← Hy.out]; exact pubOf_lt n
  have la : Hid (a < R256) := by show _ < _; rw [← Ha.out]; exact rOf_lt n m
  have lb : Hid (b < R256) := by show _ < _; rw [← Hb.out]; exact sOf_lt2 n m
  have hpub : Hid (∀ w, T w → Calls Tryd.prog 5 #[.int .i64 1, .agg (B32 (bdig n))] w fun x w' => x = .returned (.tuple #[.agg (B32 (bdig y)), .int .i64 0]) ∧ Below w.heap.size w w') := fun w hT => by have h := F.pub 1 (.inl rfl) n w hT; rw [show pubK 1 n = pubOf n from if_pos rfl, Hy.out] at h; exact h
  have hsg : Hid (∀ a' c w, T w → Txt w a' c m → Calls Tryd.prog 6 #[.int .i64 1, .agg (B32 (bdig n)), .slice a' m.length c] w fun x w' => x = .returned (.tuple #[.agg (B64 (bdig (two a b))), .int .i64 0]) ∧ Below w.heap.size w w') := fun a' c w hT hm => by have h := F.sgn 1 (.inl rfl) n a' c m hl1.out w hT hm; rw [show sgR 1 n m = rOf n m from if_pos rfl, show sgS 1 n m = sOf n m from if_pos rfl, Ha.out, Hb.out] at h; exact h
  have hver : Hid (∀ a' c w, T w → Txt w a' c m → Calls Tryd.prog 9 #[.int .i64 1, .agg (B32 (bdig y)), .slice a' m.length c, .agg (B64 (bdig (two R S)))] w fun x w' => x = .returned (.bool v) ∧ Below w.heap.size w w') := fun a' c w hT hm => by have h := F.ver 1 y R S a' c m ly.out lR lS hl1.out w hT hm; rw [show verK 1 y m R S = signedB y m R S from if_pos rfl, Hv.out] at h; exact h
  have h7pub : Hid (∀ w, T w → Calls Tryd.prog 7 #[.agg (B32 (bdig n))] w fun x w' => x = .returned (.agg (B32 (bdig y))) ∧ Below w.heap.size w w') := fun w hT => by rw [← Hy.out]; exact G.pub n w hT
  have h7sg : Hid (∀ a' c w, T w → Txt w a' c m → Calls Tryd.prog 8 #[.agg (B32 (bdig n)), .slice a' m.length c] w fun x w' => x = .returned (.agg (B64 (bdig (two a b)))) ∧ Below w.heap.size w w') := fun a' c w hT hm => by have h := G.sgn n a' c m hl1.out w hT hm; unfold sigOf at h; rw [Ha.out, Hb.out] at h; exact h
  have h7ver : Hid (∀ a' c w, T w → Txt w a' c m → Calls Tryd.prog 10 #[.agg (B32 (bdig y)), .slice a' m.length c, .agg (B64 (bdig (two R S)))] w fun x w' => x = .returned (.bool v) ∧ Below w.heap.size w w') := fun a' c w hT hm => by rw [← Hv.out]; exact G.ver y R S a' c m ly.out lR lS hl1.out w hT hm
  clear Hy Ha Hb Hv
  have hvv : (v == v) = true := beq_self_eq_true v
  go_enter Tryd.func3, Tryd.ntmps3
  go_upto_region 3 with fail
  have hK := ((Kp.nil w).alloc (B32 (bdig n)) 22).alloc (B64 (bdig (two R S))) 24
  rw [World.size_alloc] at hK
  generalize (w.alloc (.cells (B32 (bdig n)) 22)).alloc (.cells (B64 (bdig (two R S))) 24) = W at *
  obtain ⟨b3, H3⟩ : ∃ b, Hid (w.heap.size = b) := ⟨_, rfl⟩
  obtain ⟨b5, H5⟩ : ∃ b, Hid (b3 + 1 = b) := ⟨_, rfl⟩
  rw [H3.out, H5.out] at hK ⊢
  refine wp_region_ls 58 (fun _ => [(b5, B64 (bdig (two R S)), 24), (b3, B32 (bdig n), 22)]) [.v (.agg (B32 (bdig n))), .v (.tuple #[.agg (B32 (bdig y)), .int .i64 0]), .v (.tuple #[.agg (B32 (bdig y)), .int .i64 0]), .v (.agg (B32 (bdig y))), .v (.int .i64 0), .mk (B32 fun _ => 0) (B32 (bdig y)) 22 6, .o, .v (.int .i64 0)] hK (by kernel_rfl) (by kernel_rfl) (by rfl) (.c (.ld b3 (fun _ => (.tail _ (.head _))) Tryd.underlying22 rfl (B32_info _)) <| .c (.ca fun _ w hk => hpub.out w (F.keep _ _ hT hk.2)) <| .c (.p1 16 (.tuple #[.agg (B32 (bdig y)), .int .i64 0])) <| .c (.p1 14 (.tuple #[.agg (B32 (bdig y)), .int .i64 0])) <| .c (.p1 14 (.tuple #[.agg (B32 (bdig y)), .int .i64 0])) <| .c (.al hz) <| .c (.st 5 (B32_info _) (B32_one _)) <| .c (.p1 18 (.int .i64 0)) .nil) ?_
  intro vs V1 hJ hf
  obtain ⟨g2, eg2⟩ := hf 5 _ _ rfl rfl
  obtain ⟨le_g2, ap_g2, o_g2⟩ := hJ.got 5 eg2
  have hK : Kp [(g2, B32 (bdig y), 22), (b5, B64 (bdig (two R S)), 24), (b3, B32 (bdig n), 22)] w V1 := (hJ.1.cons o_g2)
  simp only [putL, Lv.val, Nat.zero_add, Nat.reduceAdd, eg2, Act.put, List.setIfInBounds_toArray, List.set_cons_succ, List.set_cons_zero]
  clear hJ hf eg2 o_g2
  clear vs
  go_upto_region 4 with fail
  refine wp_region_ls 58 (fun _ => [(g2, B32 (bdig y), 22), (b5, B64 (bdig (two R S)), 24), (b3, B32 (bdig n), 22)]) [.v (.agg (B32 (bdig n))), .v (.slice ta m.length tc), .v (.tuple #[.agg (B64 (bdig (two a b))), .int .i64 0]), .v (.tuple #[.agg (B64 (bdig (two a b))), .int .i64 0]), .v (.agg (B64 (bdig (two a b)))), .v (.int .i64 0), .mk (B64 fun _ => 0) (B64 (bdig (two a b))) 24 7, .o, .v (.int .i64 0)] hK (by kernel_rfl) (by kernel_rfl) (by rfl) (.c (.ld b3 (fun _ => (.tail _ (.tail _ (.head _)))) Tryd.underlying22 rfl (B32_info _)) <| .c (.p1 1 (.slice ta m.length tc)) <| .c (.ca fun _ w hk => hsg.out _ _ w (F.keep _ _ hT hk.2) (hm.below hk.2)) <| .c (.p1 22 (.tuple #[.agg (B64 (bdig (two a b))), .int .i64 0])) <| .c (.p1 19 (.tuple #[.agg (B64 (bdig (two a b))), .int .i64 0])) <| .c (.p1 19 (.tuple #[.agg (B64 (bdig (two a b))), .int .i64 0])) <| .c (.al hz64) <| .c (.st 6 (B64_info _) (B64_one _)) <| .c (.p1 24 (.int .i64 0)) .nil) ?_
  intro vs V3 hJ hf
  obtain ⟨g4, eg4⟩ := hf 6 _ _ rfl rfl
  obtain ⟨le_g4, ap_g4, o_g4⟩ := hJ.got 6 eg4
  have hK : Kp [(g4, B64 (bdig (two a b)), 24), (g2, B32 (bdig y), 22), (b5, B64 (bdig (two R S)), 24), (b3, B32 (bdig n), 22)] w V3 := (hJ.1.cons o_g4)
  simp only [putL, Lv.val, Nat.zero_add, Nat.reduceAdd, eg4, Act.put, List.setIfInBounds_toArray, List.set_cons_succ, List.set_cons_zero]
  clear hJ hf eg4 o_g4
  clear vs
  go_upto_region 5 with fail
  refine wp_region_lv 58 (fun _ => [(g4, B64 (bdig (two a b)), 24), (g2, B32 (bdig y), 22), (b5, B64 (bdig (two R S)), 24), (b3, B32 (bdig n), 22)]) [.v (.int .i64 0), .v (.bool true), .v (.bool true), .v (.int .i64 0), .v (.bool true), .v (.bool true), .v (.bool true), .v (.agg (B32 (bdig y))), .v (.agg (B32 (bdig n))), .v (.agg (B32 (bdig y))), .v (.bool true), .v (.bool true), .v (.bool true), .v (.agg (B64 (bdig (two a b)))), .v (.agg (B32 (bdig n))), .v (.slice ta m.length tc), .v (.agg (B64 (bdig (two a b)))), .v (.bool true), .v (.bool true), .v (.bool true), .v (.agg (B32 (bdig y))), .v (.slice ta m.length tc), .v (.agg (B64 (bdig (two R S)))), .v (.bool v), .v (.agg (B32 (bdig y))), .v (.slice ta m.length tc), .v (.agg (B64 (bdig (two R S)))), .v (.bool v), .v (.bool true), .v (.bool true), .v (.bool true), .v (.bool true), .v (.bool true), .v (.bool true)] hK (by kernel_rfl) (by kernel_rfl) (by kernel_rfl) (by rfl) (.c (.p1 8 (.int .i64 0)) <| .c (.p1 25 (.int .i64 0)) <| .c (.p1 26 (.bool true)) <| .c (.p1 10 (.int .i64 0)) <| .c (.p1 28 (.int .i64 0)) <| .c (.p2 27 (.bool true) 29 (.bool true)) <| .c (.p1 30 (.bool true)) <| .c (.ld g2 (fun _ => (.tail _ (.head _))) Tryd.underlying22 rfl (B32_info _)) <| .c (.ld b3 (fun _ => (.tail _ (.tail _ (.tail _ (.head _))))) Tryd.underlying22 rfl (B32_info _)) <| .c (.ca fun _ w hk => h7pub.out w (F.keep _ _ hT hk.2)) <| .c (.p2 32 (.agg (B32 (bdig y))) 34 (.agg (B32 (bdig y))) (h := by intro ac wc f f'; have he := B32_eq y y ly.out ly.out wc; rw [decide_eq_true rfl] at he; go_simp)) <| .c (.p2 31 (.bool true) 35 (.bool true)) <| .c (.p1 36 (.bool true)) <| .c (.ld g4 (fun _ => .head _) Tryd.underlying24 rfl (B64_info _)) <| .c (.ld b3 (fun _ => (.tail _ (.tail _ (.tail _ (.head _))))) Tryd.underlying22 rfl (B32_info _)) <| .c (.p1 1 (.slice ta m.length tc)) <| .c (.ca fun _ w hk => h7sg.out _ _ w (F.keep _ _ hT hk.2) (hm.below hk.2)) <| .c (.p2 38 (.agg (B64 (bdig (two a b)))) 41 (.agg (B64 (bdig (two a b)))) (h := by intro ac wc f f'; have he := B64_same (two a b) (two_lt la.out lb.out) wc; go_simp)) <| .c (.p2 37 (.bool true) 42 (.bool true)) <| .c (.p1 43 (.bool true)) <| .c (.ld g2 (fun _ => (.tail _ (.head _))) Tryd.underlying22 rfl (B32_info _)) <| .c (.p1 1 (.slice ta m.length tc)) <| .c (.ld b5 (fun _ => (.tail _ (.tail _ (.head _)))) Tryd.underlying24 rfl (B64_info _)) <| .c (.ca fun _ w hk => hver.out _ _ w (F.keep _ _ hT hk.2) (hm.below hk.2)) <| .c (.ld g2 (fun _ => (.tail _ (.head _))) Tryd.underlying22 rfl (B32_info _)) <| .c (.p1 1 (.slice ta m.length tc)) <| .c (.ld b5 (fun _ => (.tail _ (.tail _ (.head _)))) Tryd.underlying24 rfl (B64_info _)) <| .c (.ca fun _ w hk => h7ver.out _ _ w (F.keep _ _ hT hk.2) (hm.below hk.2)) <| .c (.p2 48 (.bool v) 52 (.bool v)) <| .c (.p2 44 (.bool true) 53 (.bool true)) <| .c (.p1 54 (.bool true)) <| .c (.ca fun _ w hk => hwk.out w (F.keep _ _ hT hk.2)) <| .c (.p2 55 (.bool true) 56 (.bool true)) <| .c (.p1 57 (.bool true)) .nil) ?_
  intro _ V5 hJ _
  have hK : Kp [(g4, B64 (bdig (two a b)), 24), (g2, B32 (bdig y), 22), (b5, B64 (bdig (two R S)), 24), (b3, B32 (bdig n), 22)] w V5 := hJ.1
  clear hJ
  simp only [putL, Lv.val, Act.put, List.setIfInBounds_toArray, List.set_cons_succ, List.set_cons_zero]
  go_wp2
  go_ret
  exact ⟨rfl, hK.2⟩
set_option maxRecDepth 100000 in
set_option maxHeartbeats 1000000 in
theorem sreal_long {n : Nat} {z : Nat → Nat} {ta : Option Addr} {tc : Nat} {m : List Int} (hn : 200 < m.length) (w : World) : Calls Tryd.prog 3 #[.agg (B32 (bdig n)), .slice ta m.length tc, .agg (B64 z)] w fun x w' => x = .returned (.bool true) ∧ Below w.heap.size w w' := by
  have hki : (200 : Int) < (m.length : Int) := by omega
  go_enter Tryd.func3, Tryd.ntmps3
  go_wp2
  go_ret
  exact ⟨rfl, ((Below.refl _ _).alloc (Nat.le_refl _) _).alloc (by simp) _⟩
end Go.Proofs.YtgibllaifnnfkaaDoor
