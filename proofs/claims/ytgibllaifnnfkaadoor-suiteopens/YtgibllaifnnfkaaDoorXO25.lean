/- Of the texts UO1, TW, UE3, UV1: what the card of this claim reaches. -/
import Derived.Test.YtgibllaifnnfkaaDoorXO24
import Derived.Test.YtgibllaifnnfkaaDoorXO20
import Derived.Test.YtgibllaifnnfkaaDoorXO19
import Derived.Test.YtgibllaifnnfkaaDoorXO23
import Derived.Test.YtgibllaifnnfkaaDoorXO22
namespace Go.Proofs.YtgibllaifnnfkaaDoor
open Go Go.RowKit
def up2 (g : Nat → Nat) (i u v : Nat) (p q : Bool) : Nat → Nat := fun j => if j = i ∧ p = true then u else if j = 32 + i ∧ q = true then v else g j
theorem verK_open (p : Nat) (m : List Int) (R S : Nat) : verK 2 p m R S = decide (two R S = two (oR p m) (oS p m)) := by
  unfold verK
  rw [if_neg (by decide), if_pos rfl]
theorem two_all {a b i j : Nat} (la : a < R256) (hi : ¬ i < 32) (hi2 : i ≤ 32) (hj : j < 64) : bdig (two a b) j = if j < i then bdig a j else if 32 ≤ j ∧ j < 32 + i then bdig b (j - 32) else 0 := by
  by_cases h : j < 32
  · rw [two_byte_lo la h, if_pos (by omega)]
  · obtain ⟨k, rfl⟩ : ∃ k, j = 32 + k := ⟨j - 32, by omega⟩
    rw [two_byte_hi la, if_neg (by omega), if_pos (by omega), show 32 + k - 32 = k by omega]
theorem xor_one : ∀ u : Fin 256, 0 ≤ bits .xor .u8 (u.val : Int) 1 ∧ bits .xor .u8 (u.val : Int) 1 < 256 ∧ bits .xor .u8 (u.val : Int) 1 ≠ (u.val : Int) := by decide +kernel
theorem xor_one_nat {u : Nat} (hu : u < 256) : ∃ x : Nat, x < 256 ∧ x ≠ u ∧ bits .xor .u8 (u : Int) 1 = (x : Int) := by
  have h : 0 ≤ bits .xor .u8 (u : Int) 1 ∧ bits .xor .u8 (u : Int) 1 < 256 ∧ bits .xor .u8 (u : Int) 1 ≠ (u : Int) := xor_one ⟨u, hu⟩
  exact ⟨(bits .xor .u8 (u : Int) 1).toNat, by omega, by omega, by omega⟩
theorem seven {a b x : Nat} (la : a < R256) (lx : x < 256) (hx : x ≠ bdig a 7) : ∃ a2, a2 < R256 ∧ a2 ≠ a ∧ B64 (upd (bdig (two a b)) 7 x) = B64 (bdig (two a2 b)) := by
  have hb : ∀ i, i < 32 → upd (bdig a) 7 x i < 256 := fun i _ => by
    unfold upd
    split
    · exact lx
    · exact bdig_lt _ _
  have l2 : vb (upd (bdig a) 7 x) 32 < R256 := by rw [R256_pow]; exact vb_lt _ 32 hb
  refine ⟨_, l2, fun e => hx ?_, B64_ext fun j hj => ?_⟩
  · have h := bdig_vb (upd (bdig a) 7 x) 32 hb 7 (by omega)
    rw [e] at h
    rw [h]
    simp [upd]
  · by_cases h : j < 32
    · rw [two_byte_lo l2 h, bdig_vb _ 32 hb j h]
      unfold upd
      rw [two_byte_lo la h]
    · obtain ⟨k, rfl⟩ : ∃ k, j = 32 + k := ⟨j - 32, by omega⟩
      rw [two_byte_hi l2]
      unfold upd
      rw [if_neg (by omega), two_byte_hi la]
theorem up2_0 (g : Nat → Nat) (i u v : Nat) : up2 g i u v false false = g := by
  funext j
  simp [up2]
theorem up2_lo (g : Nat → Nat) {i u : Nat} (v : Nat) (q : Bool) (hi : i < 32) : (B64 (up2 g i u v false q)).setIfInBounds i (.int .u8 (u : Int)) = B64 (up2 g i u v true q) := by
  rw [B64_set _ i u (by omega)]
  refine B64_ext fun j _ => ?_
  unfold upd up2
  by_cases h : j = i <;> simp [h]
theorem up2_hi (g : Nat → Nat) {i v : Nat} (u : Nat) (p : Bool) (hi : i < 32) : (B64 (up2 g i u v p false)).setIfInBounds (32 + i) (.int .u8 (v : Int)) = B64 (up2 g i u v p true) := by
  rw [B64_set _ (32 + i) v (by omega)]
  refine B64_ext fun j _ => ?_
  unfold upd up2
  by_cases h : j = 32 + i
  · have : j ≠ i := by omega
    simp [h]
  · simp [h]
theorem up2_next {a b u v i : Nat} {g : Nat → Nat} (Hu : bdig a i = u) (Hv : bdig b i = v) (hi : i < 32) (hg : ∀ j, j < 64 → g j = if j < i then bdig a j else if 32 ≤ j ∧ j < 32 + i then bdig b (j - 32) else 0) (j : Nat) (hj : j < 64) : up2 g i u v true true j = if j < i + 1 then bdig a j else if 32 ≤ j ∧ j < 32 + (i + 1) then bdig b (j - 32) else 0 := by
  unfold up2
  by_cases h1 : j = i
  · subst h1
    rw [if_pos ⟨rfl, rfl⟩, if_pos (by omega), Hu]
  · rw [if_neg (fun h => h1 h.1)]
    by_cases h2 : j = 32 + i
    · subst h2
      rw [if_pos ⟨rfl, rfl⟩, if_neg (by omega), if_pos (by omega), show 32 + i - 32 = i by omega, Hv]
    · rw [if_neg (fun h => h2 h.1), hg j hj]
      by_cases h3 : j < i
      · rw [if_pos h3, if_pos (by omega)]
      · rw [if_neg h3, if_neg (by omega : ¬ j < i + 1)]
        by_cases h4 : 32 ≤ j ∧ j < 32 + i
        · rw [if_pos h4, if_pos (by omega)]
        · rw [if_neg h4, if_neg (by omega)]
set_option maxRecDepth 100000 in
set_option maxHeartbeats 2000000 in
theorem sopens_is {T : World → Prop} (F : Ste T) (hsum : ∀ (l : List Int) (v : Value) w, T w → Tx w v l → l.length ≤ 1000 → Calls Tryd.prog 12 #[v] w fun x w' => x = .returned (.agg (B32 (bdig (hn l)))) ∧ Below w.heap.size w w') (hwk : ∀ w, T w → Calls Tryd.prog 11 #[] w fun x w' => x = .returned (.bool true) ∧ Below w.heap.size w w') {n q : Nat} {ta : Option Addr} {tc : Nat} {m : List Int} (htw : ∀ w, Txt w ta tc m → Calls Tryd.prog 13 #[.slice ta m.length tc] w fun e w' => ∃ v, e = .returned v ∧ (txR m).r w' v ∧ (∀ g ∈ blks v, w.heap.size ≤ g ∧ g < w'.heap.size) ∧ Below w.heap.size w w') (lq : q < R256) (hl : m.length ≤ 200) (w : World) (hT : T w) (hm : Txt w ta tc m) : Calls Tryd.prog 4 #[.agg (B32 (bdig n)), .agg (B32 (bdig q)), .slice ta m.length tc] w fun x w' => x = .returned (.bool true) ∧ Below w.heap.size w w' := by
  have hz := (zero_of_info zeroB32).1
  have hz64 := (zero_of_info zeroB64).1
  have hki : ¬ (200 : Int) < (m.length : Int) := by omega
  have hki' : decide ((200 : Int) < (m.length : Int)) = false := decide_eq_false hki
  have hl1 : Hid (m.length ≤ 1000) := by show _ ≤ _; omega
  have hl2 : Hid (m.length ≤ 200) := hl
  replace hwk := show Hid _ from hwk
  replace hsum := show Hid _ from hsum
  replace htw := show Hid _ from htw
  obtain ⟨y, Hy⟩ : ∃ y, Hid (opub n = y) := ⟨_, rfl⟩
  obtain ⟨a, Ha⟩ : ∃ a, Hid (oR q m = a) := ⟨_, rfl⟩
  obtain ⟨b, Hb⟩ : ∃ b, Hid (oS q m = b) := ⟨_, rfl⟩
  have ly : Hid (y < R256) := by show _ < _; rw [← Hy.out]; exact opub_lt n
  have la : Hid (a < R256) := by show _ < _; rw [← Ha.out]; exact oR_lt q m
  have lb : Hid (b < R256) := by show _ < _; rw [← Hb.out]; exact oS_lt q m
  have hpub : Hid (∀ w, T w → Calls Tryd.prog 5 #[.int .i64 2, .agg (B32 (bdig n))] w fun x w' => x = .returned (.tuple #[.agg (B32 (bdig y)), .int .i64 0]) ∧ Below w.heap.size w w') := fun w hT => by have h := F.pub 2 (.inr rfl) n w hT; rw [show pubK 2 n = opub n from if_neg (by decide), Hy.out] at h; exact h
  have hs1 : Hid (∀ v w, T w → Tx w v ([1] ++ by32 n) → Calls Tryd.prog 12 #[v] w fun x w' => x = .returned (.agg (B32 (bdig y))) ∧ Below w.heap.size w w') := fun v w hT hx => by rw [← Hy.out]; exact hsum.out _ v w hT hx (by simp [by32_length])
  have hs2 : Hid (∀ v w, T w → Tx w v ([2] ++ by32 q ++ m) → Calls Tryd.prog 12 #[v] w fun x w' => x = .returned (.agg (B32 (bdig a))) ∧ Below w.heap.size w w') := fun v w hT hx => by have h := hsum.out _ v w hT hx (by simp [by32_length]; have := hl2.out; omega); rw [List.append_assoc, List.singleton_append] at h; rw [← Ha.out]; exact h
  have hs3 : Hid (∀ v w, T w → Tx w v ([3] ++ by32 q ++ m) → Calls Tryd.prog 12 #[v] w fun x w' => x = .returned (.agg (B32 (bdig b))) ∧ Below w.heap.size w w') := fun v w hT hx => by have h := hsum.out _ v w hT hx (by simp [by32_length]; have := hl2.out; omega); rw [List.append_assoc, List.singleton_append] at h; rw [← Hb.out]; exact h
  have bq : Hid (∀ r : List Int, H.Bys r → H.Bys (r ++ by32 q)) := fun r h x hx => (List.mem_append.1 hx).elim (h x) (by32_bys q x)
  have bn : Hid (H.Bys ([1] ++ by32 n)) := fun x hx => (List.mem_append.1 hx).elim (fun h => by rw [List.mem_singleton] at h; rw [h]; decide) (by32_bys n x)
  have yb2 : Hid (H.Bys ([2] ++ by32 q ++ m)) := fun x hx => (List.mem_append.1 hx).elim (bq.out [2] (fun y hy => by rw [List.mem_singleton] at hy; rw [hy]; decide) x) (hm.1.2.2.2.1 x)
  have yb3 : Hid (H.Bys ([3] ++ by32 q ++ m)) := fun x hx => (List.mem_append.1 hx).elim (bq.out [3] (fun y hy => by rw [List.mem_singleton] at hy; rw [hy]; decide) x) (hm.1.2.2.2.1 x)
  have h33 : Hid (([1] : List Int).length + (by32 n).length ≤ 1099511627776) := by show _ ≤ _; simp [by32_length]
  have h34 : Hid (∀ c : Int, ([c] : List Int).length + (by32 q).length ≤ 1099511627776) := fun c => by simp [by32_length]
  have h35 : Hid (∀ c : Int, ([c] ++ by32 q : List Int).length + m.length ≤ 1099511627776) := fun c => by have := hl2.out; simp [by32_length]; omega
  have hv1 : Hid (∀ w, T w → Txt w ta tc m → Calls Tryd.prog 9 #[.int .i64 2, .agg (B32 (bdig q)), .slice ta m.length tc, .agg (B64 (bdig (two a b)))] w fun x w' => x = .returned (.bool true) ∧ Below w.heap.size w w') := fun w hT hm => by have h := F.ver 2 q a b ta tc m lq la.out lb.out hl1.out w hT hm; rw [verK_open, Ha.out, Hb.out, decide_eq_true rfl] at h; exact h
  have hv0 : Hid (∀ a2, a2 < R256 → a2 ≠ a → ∀ w, T w → Txt w ta tc m → Calls Tryd.prog 9 #[.int .i64 2, .agg (B32 (bdig q)), .slice ta m.length tc, .agg (B64 (bdig (two a2 b)))] w fun x w' => x = .returned (.bool false) ∧ Below w.heap.size w w') := fun a2 l2 hne w hT hm => by have h := F.ver 2 q a2 b ta tc m lq l2 lb.out hl1.out w hT hm; rw [verK_open, Ha.out, Hb.out, decide_eq_false (fun e => hne (by have h := congrArg (· % R256) e; simp only [two_lo l2, two_lo la.out] at h; exact h))] at h; exact h
  obtain ⟨c, Hc⟩ : ∃ c, Hid (sgR 2 n m = c) := ⟨_, rfl⟩
  obtain ⟨d, Hd⟩ : ∃ d, Hid (sgS 2 n m = d) := ⟨_, rfl⟩
  have lc : Hid (c < R256) := by show _ < _; rw [← Hc.out]; exact sgR_lt (.inr rfl) n m
  have ld : Hid (d < R256) := by show _ < _; rw [← Hd.out]; exact sgS_lt (.inr rfl) n m
  have hsg : Hid (∀ w, T w → Txt w ta tc m → Calls Tryd.prog 6 #[.int .i64 2, .agg (B32 (bdig n)), .slice ta m.length tc] w fun x w' => x = .returned (.tuple #[.agg (B64 (bdig (two c d))), .int .i64 0]) ∧ Below w.heap.size w w') := fun w hT hm => by have h := F.sgn 2 (.inr rfl) n ta tc m hl1.out w hT hm; rw [Hc.out, Hd.out] at h; exact h
  have hv2 : Hid (∀ a' c' w, T w → Txt w a' c' m → Calls Tryd.prog 9 #[.int .i64 2, .agg (B32 (bdig y)), .slice a' m.length c', .agg (B64 (bdig (two c d)))] w fun x w' => x = .returned (.bool true) ∧ Below w.heap.size w w') := fun a' c' w hT hm => by have h := F.ver 2 y c d a' c' m ly.out lc.out ld.out hl1.out w hT hm; rw [← Hc.out, ← Hd.out, ← Hy.out] at h ⊢; rw [show opub n = pubK 2 n from (if_neg (by decide)).symm, verK_own (.inr rfl)] at h; rw [show opub n = pubK 2 n from (if_neg (by decide)).symm]; exact h
  clear Hy Ha Hb Hc Hd bq
  go_enter Tryd.func4, Tryd.ntmps4
  go_upto_region 3 with fail
  have hK := ((Kp.nil w).alloc (B32 (bdig n)) 22).alloc (B32 (bdig q)) 22
  rw [World.size_alloc] at hK
  generalize (w.alloc (.cells (B32 (bdig n)) 22)).alloc (.cells (B32 (bdig q)) 22) = W at *
  obtain ⟨b3, H3⟩ : ∃ b, Hid (w.heap.size = b) := ⟨_, rfl⟩
  obtain ⟨b4, H4⟩ : ∃ b, Hid (b3 + 1 = b) := ⟨_, rfl⟩
  have hsz : Hid (w.heap.size ≤ w.heap.size) := Nat.le_refl _
  rw [H3.out, H4.out] at hK ⊢
  refine wp_region_ls 96 (fun _ => [(b4, B32 (bdig q), 22), (b3, B32 (bdig n), 22)]) [.v (.agg (B32 (bdig n))), .v (.tuple #[.agg (B32 (bdig y)), .int .i64 0]), .v (.tuple #[.agg (B32 (bdig y)), .int .i64 0]), .v (.agg (B32 (bdig y))), .v (.int .i64 0), .mk (B32 fun _ => 0) (B32 (bdig y)) 22 6, .o, .v (.int .i64 0)] hK (by kernel_rfl) (by kernel_rfl) (by rfl) (.c (.ld b3 (fun _ => (.tail _ (.head _))) Tryd.underlying22 rfl (B32_info _)) <| .c (.ca fun _ w hk => hpub.out w (F.keep _ _ hT hk.2)) <| .c (.p1 21 (.tuple #[.agg (B32 (bdig y)), .int .i64 0])) <| .c (.p1 19 (.tuple #[.agg (B32 (bdig y)), .int .i64 0])) <| .c (.p1 19 (.tuple #[.agg (B32 (bdig y)), .int .i64 0])) <| .c (.al hz) <| .c (.st 5 (B32_info _) (B32_one _)) <| .c (.p1 23 (.int .i64 0)) .nil) ?_
  intro vs V1 hJ hf
  obtain ⟨g2, eg2⟩ := hf 5 _ _ rfl rfl
  obtain ⟨le_g2, ap_g2, o_g2⟩ := hJ.got 5 eg2
  have hK : Kp [(g2, B32 (bdig y), 22), (b4, B32 (bdig q), 22), (b3, B32 (bdig n), 22)] w V1 := (hJ.1.cons o_g2)
  simp only [putL, Lv.val, Nat.zero_add, Nat.reduceAdd, eg2, Act.put, List.setIfInBounds_toArray, List.set_cons_succ, List.set_cons_zero]
  clear hJ hf eg2 o_g2
  clear vs
  go_upto_region 4 with fail
  refine wp_region_lv 96 (fun _ => [(g2, B32 (bdig y), 22), (b4, B32 (bdig q), 22), (b3, B32 (bdig n), 22)]) [.v (.int .i64 0), .v (.bool false), .v (.bool false), .v (.agg (B32 (bdig y))), .od (obR w.heap.size [1]) 6, .v (.slice (some ⟨b3, 0, none⟩) 32 32), .ow (txR ([1] ++ by32 n)), .v (.agg (B32 (bdig y))), .v (.bool false), .v (.bool false)] hK (by kernel_rfl) (by kernel_rfl) (by kernel_rfl) (by rfl) (.c (.p1 8 (.int .i64 0)) <| .c (.p1 24 (.int .i64 0)) <| .c (.p1 25 (.bool false)) <| .c (.ld g2 (fun _ => .head _) Tryd.underlying22 rfl (B32_info _)) <| .c (.bo [1] ob_id) <| .c (.p1 3 (.pointer (some ⟨b3, 0, none⟩))) <| .c (.ab (xs := [1]) (m := by32 n) 4 (fun _ vs w hA => (tx_bytes (hA.j.kp.at b3 (B32 (bdig n)) 22 (.tail _ (.tail _ (.head _)))))) (ob_tx bn.out) h33.out) <| .c (.cj (fun vs => #[vs 6]) fun _ vs w hA => hs1.out _ w (F.keep _ _ hT hA.j.kp.2) (hA.own 6)) <| .c (.p2 27 (.agg (B32 (bdig y))) 31 (.agg (B32 (bdig y))) (h := by intro ac wc f f'; have he := B32_eq y y ly.out ly.out wc; rw [decide_eq_true rfl] at he; go_simp)) <| .c (.p2 26 (.bool false) 32 (.bool false)) .nil) ?_
  intro vs V3 hJ hf
  have hK : Kp [(g2, B32 (bdig y), 22), (b4, B32 (bdig q), 22), (b3, B32 (bdig n), 22)] w V3 := hJ.1
  clear hJ hf
  simp only [putL, Lv.val, Nat.zero_add, Nat.reduceAdd, Act.put, List.setIfInBounds_toArray, List.set_cons_succ, List.set_cons_zero]
  generalize vs 4 = qV3_4, vs 6 = qV3_6
  clear vs
  go_upto_region 6 with fail
  refine wp_region_ls 96 (fun _ => [(g2, B32 (bdig y), 22), (b4, B32 (bdig q), 22), (b3, B32 (bdig n), 22)]) [.od (obR w.heap.size [2]) 2, .v (.slice (some ⟨b4, 0, none⟩) 32 32), .od (obR w.heap.size ([2] ++ by32 q)) 4, .v (.slice ta m.length tc), .ow (txR ([2] ++ by32 q ++ m)), .v (.agg (B32 (bdig a))), .mk (B32 fun _ => 0) (B32 (bdig a)) 22 7, .o] hK (by kernel_rfl) (by kernel_rfl) (by rfl) (.c (.bo [2] ob_id) <| .c (.p1 4 (.pointer (some ⟨b4, 0, none⟩))) <| .c (.ab (xs := [2]) (m := by32 q) 0 (fun _ vs w hA => (tx_bytes (hA.j.kp.at b4 (B32 (bdig q)) 22 (.tail _ (.head _))))) ob_id (h34.out 2)) <| .c (.p1 2 (.slice ta m.length tc)) <| .c (.ab (xs := [2] ++ by32 q) (m := m) 2 (fun _ vs w hA => ⟨ta, tc, rfl, hm.below hA.j.kp.2⟩) (ob_tx yb2.out) (h35.out 2)) <| .c (.cj (fun vs => #[vs 4]) fun _ vs w hA => hs2.out _ w (F.keep _ _ hT hA.j.kp.2) (hA.own 4)) <| .c (.al hz) <| .c (.st 6 (B32_info _) (B32_one _)) .nil) ?_
  intro vs V4 hJ hf
  obtain ⟨g5, eg5⟩ := hf 6 _ _ rfl rfl
  obtain ⟨le_g5, ap_g5, o_g5⟩ := hJ.got 6 eg5
  have hK : Kp [(g5, B32 (bdig a), 22), (g2, B32 (bdig y), 22), (b4, B32 (bdig q), 22), (b3, B32 (bdig n), 22)] w V4 := (hJ.1.cons o_g5)
  simp only [putL, Lv.val, Nat.zero_add, Nat.reduceAdd, eg5, Act.put, List.setIfInBounds_toArray, List.set_cons_succ, List.set_cons_zero]
  clear hJ hf eg5 o_g5
  generalize vs 0 = qV4_0, vs 2 = qV4_2, vs 4 = qV4_4
  clear vs
  go_upto_region 7 with fail
  refine wp_region_ls 96 (fun _ => [(g5, B32 (bdig a), 22), (g2, B32 (bdig y), 22), (b4, B32 (bdig q), 22), (b3, B32 (bdig n), 22)]) [.od (obR w.heap.size [3]) 2, .v (.slice (some ⟨b4, 0, none⟩) 32 32), .od (obR w.heap.size ([3] ++ by32 q)) 4, .v (.slice ta m.length tc), .ow (txR ([3] ++ by32 q ++ m)), .v (.agg (B32 (bdig b))), .mk (B32 fun _ => 0) (B32 (bdig b)) 22 7, .o] hK (by kernel_rfl) (by kernel_rfl) (by rfl) (.c (.bo [3] ob_id) <| .c (.p1 4 (.pointer (some ⟨b4, 0, none⟩))) <| .c (.ab (xs := [3]) (m := by32 q) 0 (fun _ vs w hA => (tx_bytes (hA.j.kp.at b4 (B32 (bdig q)) 22 (.tail _ (.tail _ (.head _)))))) ob_id (h34.out 3)) <| .c (.p1 2 (.slice ta m.length tc)) <| .c (.ab (xs := [3] ++ by32 q) (m := m) 2 (fun _ vs w hA => ⟨ta, tc, rfl, hm.below hA.j.kp.2⟩) (ob_tx yb3.out) (h35.out 3)) <| .c (.cj (fun vs => #[vs 4]) fun _ vs w hA => hs3.out _ w (F.keep _ _ hT hA.j.kp.2) (hA.own 4)) <| .c (.al hz) <| .c (.st 6 (B32_info _) (B32_one _)) .nil) ?_
  intro vs V6 hJ hf
  obtain ⟨g7, eg7⟩ := hf 6 _ _ rfl rfl
  obtain ⟨le_g7, ap_g7, o_g7⟩ := hJ.got 6 eg7
  have hK : Kp [(g7, B32 (bdig b), 22), (g5, B32 (bdig a), 22), (g2, B32 (bdig y), 22), (b4, B32 (bdig q), 22), (b3, B32 (bdig n), 22)] w V6 := (hJ.1.cons o_g7)
  simp only [putL, Lv.val, Nat.zero_add, Nat.reduceAdd, eg7, Act.put, List.setIfInBounds_toArray, List.set_cons_succ, List.set_cons_zero]
  clear hJ hf eg7 o_g7
  generalize vs 0 = qV6_0, vs 2 = qV6_2, vs 4 = qV6_4
  clear vs
  go_upto_region 8 with fail
  refine wp_region_ls 96 (fun _ => [(g7, B32 (bdig b), 22), (g5, B32 (bdig a), 22), (g2, B32 (bdig y), 22), (b4, B32 (bdig q), 22), (b3, B32 (bdig n), 22)]) [.mk (B64 fun _ => 0) (B64 fun _ => 0) 24 1000] hK (by kernel_rfl) (by kernel_rfl) (by rfl) (.c (.an hz64) .nil) ?_
  intro vs V8 hJ hf
  obtain ⟨g9, eg9⟩ := hf 0 _ _ rfl rfl
  obtain ⟨le_g9, ap_g9, o_g9⟩ := hJ.got0 0 eg9
  have hK : Kp [(g9, B64 fun _ => 0, 24), (g7, B32 (bdig b), 22), (g5, B32 (bdig a), 22), (g2, B32 (bdig y), 22), (b4, B32 (bdig q), 22), (b3, B32 (bdig n), 22)] w V8 := (hJ.1.cons o_g9)
  simp only [putL, Lv.val, eg9, Act.put, List.setIfInBounds_toArray, List.set_cons_succ, List.set_cons_zero]
  clear hJ hf eg9 o_g9
  clear vs
  go_upto_region 9 with fail
  refine wp_region_ls 96 (fun _ => [(g9, B64 fun _ => 0, 24), (g7, B32 (bdig b), 22), (g5, B32 (bdig a), 22), (g2, B32 (bdig y), 22), (b4, B32 (bdig q), 22), (b3, B32 (bdig n), 22)]) [.v (.int .i64 0)] hK (by kernel_rfl) (by kernel_rfl) (by rfl) (.c .p0 .nil) ?_
  intro _ V10 hJ _
  have hK : Kp [(g9, B64 fun _ => 0, 24), (g7, B32 (bdig b), 22), (g5, B32 (bdig a), 22), (g2, B32 (bdig y), 22), (b4, B32 (bdig q), 22), (b3, B32 (bdig n), 22)] w V10 := hJ.1
  clear hJ
  simp only [putL, Lv.val, Act.put, List.setIfInBounds_toArray, List.set_cons_succ, List.set_cons_zero]
  go_wp2_with fail
  go_loopw [12] (fun ii wr => ∃ (k : Nat) (g : Nat → Nat), k ≤ 32 ∧ ii = .int .i64 (k : Int) ∧ (∀ j, j < 64 → g j = if j < k then bdig a j else if 32 ≤ j ∧ j < 32 + k then bdig b (j - 32) else 0) ∧ Kp [(g9, B64 g, 24), (g7, B32 (bdig b), 22), (g5, B32 (bdig a), 22), (g2, B32 (bdig y), 22), (b4, B32 (bdig q), 22), (b3, B32 (bdig n), 22)] w wr) (fun ii _ => 32 - (intOf ii).toNat)
  case atStart => exact ⟨0, fun _ => 0, by omega, rfl, fun j hj => by rw [if_neg (by omega), if_neg (by omega)], hK⟩
  case round =>
    clear hK
    obtain ⟨i, g, hi, rfl, hg, hK⟩ := hrel
    replace hg := show Hid _ from hg
    have hi0 : (0 : Int) ≤ (i : Int) := by omega
    by_cases hlt : i < 32
    · have hii : (i : Int) < 32 := by omega
      obtain ⟨u, Hu⟩ : ∃ u, Hid (bdig a i = u) := ⟨_, rfl⟩
      obtain ⟨v, Hv⟩ : ∃ v, Hid (bdig b i = v) := ⟨_, rfl⟩
      have lu : Hid (u < 256) := by show _ < _; rw [← Hu.out]; exact bdig_lt _ _
      have lv : Hid (v < 256) := by show _ < _; rw [← Hv.out]; exact bdig_lt _ _
      have h32 : (32 : Int) + (i : Int) < 64 := by omega
      have h64 : (i : Int) < 64 := by omega
      have n32 : ((32 : Int) + (i : Int)).toNat = 32 + i := by omega
      have w32 : IntKind.i64.wrap (32 + (i : Int)) = 32 + (i : Int) := by simp [IntKind.wrap, IntKind.bits, IntKind.signed]; omega
      have p32 : (0 : Int) ≤ 32 + (i : Int) := by omega
      have c1 : Hid (∀ w : World, Own w g5 (B32 (bdig a)) 22 → w.cell? ⟨g5, i, none⟩ = some (.int .u8 (u : Int))) := fun w h => by have := h.cell (B32_at (bdig a) i hlt); rw [Hu.out] at this; exact this
      have c2 : Hid (∀ w : World, Own w g7 (B32 (bdig b)) 22 → w.cell? ⟨g7, i, none⟩ = some (.int .u8 (v : Int))) := fun w h => by have := h.cell (B32_at (bdig b) i hlt); rw [Hv.out] at this; exact this
      have hK : Kp [(g9, B64 (up2 g i u v false false), 24), (g7, B32 (bdig b), 22), (g5, B32 (bdig a), 22), (g2, B32 (bdig y), 22), (b4, B32 (bdig q), 22), (b3, B32 (bdig n), 22)] w wr := by rw [up2_0]; exact hK
      go_upto_region 12 with fail
      refine wp_region_lv 96 (fun L => (g9, B64 (up2 g i u v (L 10) (L 12)), 24) :: [(g7, B32 (bdig b), 22), (g5, B32 (bdig a), 22), (g2, B32 (bdig y), 22), (b4, B32 (bdig q), 22), (b3, B32 (bdig n), 22)]) [.v (.int .i64 (i : Int)), .v (.int .i64 (i : Int)), .v (.int .i64 (32 + (i : Int))), .v (.int .i64 (i : Int)), .v (.pointer (some ⟨g5, i, none⟩)), .v (.int .u8 (u : Int)), .v (.int .i64 (i : Int)), .v (.pointer (some ⟨g7, i, none⟩)), .v (.int .u8 (v : Int)), .v (.pointer (some ⟨g9, i, none⟩)), .o, .v (.pointer (some ⟨g9, 32 + i, none⟩)), .o] hK (by kernel_rfl) (by kernel_rfl) (by kernel_rfl) (by rfl) (.c (.p1 12 (.int .i64 (i : Int))) <| .c (.p1 12 (.int .i64 (i : Int))) <| .c (.p1 51 (.int .i64 (i : Int)) (h := by intro ac wc f; have q0 := getq f; go_simp; try rw [w32])) <| .c (.p1 12 (.int .i64 (i : Int))) <| .c (.p2 9 (.pointer (some ⟨g5, 0, none⟩)) 53 (.int .i64 (i : Int))) <| .c (.lc g5 i (fun _ w hk => c1.out w (hk.at g5 (B32 (bdig a)) 22 (.tail _ (.tail _ (.head _))))) load_u8) <| .c (.p1 12 (.int .i64 (i : Int))) <| .c (.p2 10 (.pointer (some ⟨g7, 0, none⟩)) 56 (.int .i64 (i : Int))) <| .c (.lc g7 i (fun _ w hk => c2.out w (hk.at g7 (B32 (bdig b)) 22 (.tail _ (.head _)))) load_u8) <| .c (.p2 11 (.pointer (some ⟨g9, 0, none⟩)) 50 (.int .i64 (i : Int))) <| .c (.sc g9 i (fun L => B64 (up2 g i u v (L 10) (L 12))) (.int .u8 (u : Int)) (.hr (fun _ => rfl) (fun _ => rfl) fun _ => fc (ap_g9 _ (.head _)) <| fc (ap_g9 _ (.tail _ (.head _))) <| fc (ap_g9 _ (.tail _ (.tail _ (.head _)))) <| fc (ap_g9 _ (.tail _ (.tail _ (.tail _ (.head _))))) <| fc (ap_g9 _ (.tail _ (.tail _ (.tail _ (.tail _ (.head _)))))) <| fn) (fun L h => by show B64 (up2 g i u v true (L 12)) = (B64 (up2 g i u v (L 10) (L 12))).setIfInBounds i (.int .u8 (u : Int)); rw [h]; exact (up2_lo g v _ hlt).symm) (fun _ => by rw [B64_size]; omega) le_g9.out one_u8) <| .c (.p2 11 (.pointer (some ⟨g9, 0, none⟩)) 52 (.int .i64 (32 + (i : Int))) (h := by intro ac wc f f2; have q0 := getq f; have q1 := getq f2; go_simp)) <| .c (.sc g9 (32 + i) (fun L => B64 (up2 g i u v (L 10) (L 12))) (.int .u8 (v : Int)) (.hr (fun _ => rfl) (fun _ => rfl) fun _ => fc (ap_g9 _ (.head _)) <| fc (ap_g9 _ (.tail _ (.head _))) <| fc (ap_g9 _ (.tail _ (.tail _ (.head _)))) <| fc (ap_g9 _ (.tail _ (.tail _ (.tail _ (.head _))))) <| fc (ap_g9 _ (.tail _ (.tail _ (.tail _ (.tail _ (.head _)))))) <| fn) (fun L h => by show B64 (up2 g i u v (L 10) true) = (B64 (up2 g i u v (L 10) (L 12))).setIfInBounds (32 + i) (.int .u8 (v : Int)); rw [h]; exact (up2_hi g u _ hlt).symm) (fun _ => by rw [B64_size]; omega) le_g9.out one_u8) .nil) ?_
      intro _ V9 hJ _
      have hK : Kp ((g9, B64 (up2 g i u v true true), 24) :: [(g7, B32 (bdig b), 22), (g5, B32 (bdig a), 22), (g2, B32 (bdig y), 22), (b4, B32 (bdig q), 22), (b3, B32 (bdig n), 22)]) w V9 := hJ.1
      clear hJ
      simp only [putL, Lv.val, Act.put, List.setIfInBounds_toArray, List.set_cons_succ, List.set_cons_zero]
      go_wp2_with fail
      go_roundw
      case rel => exact ⟨i + 1, up2 g i u v true true, by omega, by go_num, up2_next Hu.out Hv.out hlt hg.out, hK⟩
      case measure => simp [intOf]; omega
    · have hii : ¬ (i : Int) < 32 := by omega
      have hK : Kp [(g9, B64 (bdig (two a b)), 24), (g7, B32 (bdig b), 22), (g5, B32 (bdig a), 22), (g2, B32 (bdig y), 22), (b4, B32 (bdig q), 22), (b3, B32 (bdig n), 22)] w wr := by rw [show B64 (bdig (two a b)) = B64 g from B64_ext fun j hj => by rw [hg.out j hj]; exact two_all la.out hlt hi hj]; exact hK
      clear hg
      go_upto_region 13 with fail
      refine wp_region_ls 96 (fun _ => [(g9, B64 (bdig (two a b)), 24), (g7, B32 (bdig b), 22), (g5, B32 (bdig a), 22), (g2, B32 (bdig y), 22), (b4, B32 (bdig q), 22), (b3, B32 (bdig n), 22)]) [.v (.agg (B32 (bdig q))), .v (.slice ta m.length tc), .v (.agg (B64 (bdig (two a b)))), .v (.bool true), .v (.bool false)] hK (by kernel_rfl) (by kernel_rfl) (by rfl) (.c (.ld b4 (fun _ => (.tail _ (.tail _ (.tail _ (.tail _ (.head _)))))) Tryd.underlying22 rfl (B32_info _)) <| .c (.p1 2 (.slice ta m.length tc)) <| .c (.ld g9 (fun _ => .head _) Tryd.underlying24 rfl (B64_info _)) <| .c (.ca fun _ w hk => hv1.out w (F.keep _ _ hT hk.2) (hm.below hk.2)) <| .c (.p1 64 (.bool true)) .nil) ?_
      intro _ V11 hJ _
      have hK : Kp [(g9, B64 (bdig (two a b)), 24), (g7, B32 (bdig b), 22), (g5, B32 (bdig a), 22), (g2, B32 (bdig y), 22), (b4, B32 (bdig q), 22), (b3, B32 (bdig n), 22)] w V11 := hJ.1
      clear hJ
      simp only [putL, Lv.val, Act.put, List.setIfInBounds_toArray, List.set_cons_succ, List.set_cons_zero]
      obtain ⟨u, Hu⟩ : ∃ u, Hid (bdig a 7 = u) := ⟨_, rfl⟩
      have lu : u < 256 := by rw [← Hu.out]; exact bdig_lt _ _
      have u0 : (0 : Int) ≤ (u : Int) := by omega
      have c1 : V11.cell? ⟨g9, 7, none⟩ = some (.int .u8 (u : Int)) := by have := (hK.at g9 (B64 (bdig (two a b))) 24 (.head _)).cell (B64_at (bdig (two a b)) 7 (by omega)); rw [two_byte_lo la.out (by omega), Hu.out] at this; exact this
      have d1 := (hK.at g9 (B64 (bdig (two a b))) 24 (.head _)).frozen 7
      go_upto_region 16 with fail
      obtain ⟨x, lx, nx, ex⟩ := xor_one_nat lu
      rw [ex]
      obtain ⟨a2, l2, ne2, e2⟩ := seven (b := b) la.out lx (by rw [Hu.out]; exact nx)
      replace ne2 := show Hid _ from ne2
      replace l2 := show Hid _ from l2
      have hK := Kp.setCell (i := 7) (v := .int .u8 (x : Int)) hK (by simp only [List.forall_mem_cons, List.not_mem_nil, false_implies, implies_true, and_true]; exact ⟨(ap_g9 _ (.head _)).out, (ap_g9 _ (.tail _ (.head _))).out, (ap_g9 _ (.tail _ (.tail _ (.head _)))).out, (ap_g9 _ (.tail _ (.tail _ (.tail _ (.head _))))).out, (ap_g9 _ (.tail _ (.tail _ (.tail _ (.tail _ (.head _)))))).out⟩) le_g9.out
      rw [B64_set _ 7 x (by omega), e2] at hK
      generalize V11.setCell ⟨g9, 7, none⟩ (.int .u8 (x : Int)) = W7 at *
      clear c1 d1 e2 ex
      refine wp_region_ls 96 (fun _ => [(g9, B64 (bdig (two a2 b)), 24), (g7, B32 (bdig b), 22), (g5, B32 (bdig a), 22), (g2, B32 (bdig y), 22), (b4, B32 (bdig q), 22), (b3, B32 (bdig n), 22)]) [.v (.agg (B32 (bdig n))), .v (.slice ta m.length tc), .v (.tuple #[.agg (B64 (bdig (two c d))), .int .i64 0]), .v (.tuple #[.agg (B64 (bdig (two c d))), .int .i64 0]), .v (.agg (B64 (bdig (two c d)))), .v (.int .i64 0), .mk (B64 fun _ => 0) (B64 (bdig (two c d))) 24 7, .o, .v (.int .i64 0)] hK (by kernel_rfl) (by kernel_rfl) (by rfl) (.c (.ld b3 (fun _ => (.tail _ (.tail _ (.tail _ (.tail _ (.tail _ (.head _))))))) Tryd.underlying22 rfl (B32_info _)) <| .c (.p1 2 (.slice ta m.length tc)) <| .c (.ca fun _ w hk => hsg.out w (F.keep _ _ hT hk.2) (hm.below hk.2)) <| .c (.p1 73 (.tuple #[.agg (B64 (bdig (two c d))), .int .i64 0])) <| .c (.p1 70 (.tuple #[.agg (B64 (bdig (two c d))), .int .i64 0])) <| .c (.p1 70 (.tuple #[.agg (B64 (bdig (two c d))), .int .i64 0])) <| .c (.al hz64) <| .c (.st 6 (B64_info _) (B64_one _)) <| .c (.p1 75 (.int .i64 0)) .nil) ?_
      intro vs V12 hJ hf
      obtain ⟨g13, eg13⟩ := hf 6 _ _ rfl rfl
      obtain ⟨le_g13, ap_g13, o_g13⟩ := hJ.got 6 eg13
      have hK : Kp [(g13, B64 (bdig (two c d)), 24), (g9, B64 (bdig (two a2 b)), 24), (g7, B32 (bdig b), 22), (g5, B32 (bdig a), 22), (g2, B32 (bdig y), 22), (b4, B32 (bdig q), 22), (b3, B32 (bdig n), 22)] w V12 := (hJ.1.cons o_g13)
      simp only [putL, Lv.val, Nat.zero_add, Nat.reduceAdd, eg13, Act.put, List.setIfInBounds_toArray, List.set_cons_succ, List.set_cons_zero]
      clear hJ hf eg13 o_g13
      clear vs
      go_upto_region 17 with fail
      refine wp_region_ls 96 (fun _ => [(g13, B64 (bdig (two c d)), 24), (g9, B64 (bdig (two a2 b)), 24), (g7, B32 (bdig b), 22), (g5, B32 (bdig a), 22), (g2, B32 (bdig y), 22), (b4, B32 (bdig q), 22), (b3, B32 (bdig n), 22)]) [.v (.slice ta m.length tc), .ow (txR m), .al 1] hK (by kernel_rfl) (by kernel_rfl) (by rfl) (.c (.p1 2 (.slice ta m.length tc)) <| .c (.co (fun _ => #[.slice ta m.length tc]) fun _ vs w hA => htw.out w (hm.below hA.j.kp.2)) <| .c (.id 1 77 (fun _ vs w a _ f => by have q0 := getq f; go_simp)) .nil) ?_
      intro vs V17 hJ hf
      obtain ⟨ja, jc, e1, hTx⟩ := hJ.ow 1 _ rfl rfl
      obtain ⟨-, e2⟩ := hJ.al 2 1 rfl rfl
      have hK : Kp [(g13, B64 (bdig (two c d)), 24), (g9, B64 (bdig (two a2 b)), 24), (g7, B32 (bdig b), 22), (g5, B32 (bdig a), 22), (g2, B32 (bdig y), 22), (b4, B32 (bdig q), 22), (b3, B32 (bdig n), 22)] w V17 := hJ.1
      simp only [putL, Lv.val, Nat.zero_add, Nat.reduceAdd, e2, e1, Act.put, List.setIfInBounds_toArray, List.set_cons_succ, List.set_cons_zero]
      clear hJ hf e1 e2 vs
      have hB := hK.2
      have hT := F.keep _ _ hT hK.2
      have hm := hm.below hK.2
      have hK : Kp [(g13, B64 (bdig (two c d)), 24), (g9, B64 (bdig (two a2 b)), 24), (g7, B32 (bdig b), 22), (g5, B32 (bdig a), 22), (g2, B32 (bdig y), 22), (b4, B32 (bdig q), 22), (b3, B32 (bdig n), 22)] V17 V17 := ⟨hK.1, Below.refl _ _⟩
      go_upto_region 18 with fail
      refine wp_region_ls 96 (fun _ => [(g13, B64 (bdig (two c d)), 24), (g9, B64 (bdig (two a2 b)), 24), (g7, B32 (bdig b), 22), (g5, B32 (bdig a), 22), (g2, B32 (bdig y), 22), (b4, B32 (bdig q), 22), (b3, B32 (bdig n), 22)]) [.v (.agg (B32 (bdig q))), .v (.slice ta m.length tc), .v (.agg (B64 (bdig (two a2 b)))), .v (.bool false), .v (.bool true), .v (.bool true), .v (.int .i64 0), .v (.bool true), .v (.bool true), .v (.bool true), .v (.agg (B32 (bdig y))), .v (.slice ja m.length jc), .v (.agg (B64 (bdig (two c d)))), .v (.bool true), .v (.bool true), .v (.bool true), .v (.bool true), .v (.bool true), .v (.bool true)] hK (by kernel_rfl) (by kernel_rfl) (by rfl) (.c (.ld b4 (fun _ => (.tail _ (.tail _ (.tail _ (.tail _ (.tail _ (.head _))))))) Tryd.underlying22 rfl (B32_info _)) <| .c (.p1 2 (.slice ta m.length tc)) <| .c (.ld g9 (fun _ => (.tail _ (.head _))) Tryd.underlying24 rfl (B64_info _)) <| .c (.ca fun _ w hk => hv0.out a2 l2.out ne2.out w (F.keep _ _ hT hk.2) (hm.below hk.2)) <| .c (.p1 81 (.bool false)) <| .c (.p1 82 (.bool true)) <| .c (.p1 14 (.int .i64 0)) <| .c (.p1 84 (.int .i64 0)) <| .c (.p2 83 (.bool true) 85 (.bool true)) <| .c (.p1 86 (.bool true)) <| .c (.ld g2 (fun _ => (.tail _ (.tail _ (.tail _ (.tail _ (.head _)))))) Tryd.underlying22 rfl (B32_info _)) <| .c (.p1 15 (.slice ja m.length jc)) <| .c (.ld g13 (fun _ => .head _) Tryd.underlying24 rfl (B64_info _)) <| .c (.ca fun _ w hk => hv2.out _ _ w (F.keep _ _ hT hk.2) (hTx.below hk.2)) <| .c (.p2 87 (.bool true) 91 (.bool true)) <| .c (.p1 92 (.bool true)) <| .c (.ca fun _ w hk => hwk.out w (F.keep _ _ hT hk.2)) <| .c (.p2 93 (.bool true) 94 (.bool true)) <| .c (.p1 95 (.bool true)) .nil) ?_
      intro _ V14 hJ _
      have hK : Kp [(g13, B64 (bdig (two c d)), 24), (g9, B64 (bdig (two a2 b)), 24), (g7, B32 (bdig b), 22), (g5, B32 (bdig a), 22), (g2, B32 (bdig y), 22), (b4, B32 (bdig q), 22), (b3, B32 (bdig n), 22)] V17 V14 := hJ.1
      clear hJ
      simp only [putL, Lv.val, Act.put, List.setIfInBounds_toArray, List.set_cons_succ, List.set_cons_zero]
      go_wp2
      go_ret
      exact ⟨rfl, hB.trans (hK.2.mono hB.size)⟩
set_option maxRecDepth 100000 in
set_option maxHeartbeats 1000000 in
theorem sopens_long {n q : Nat} {ta : Option Addr} {tc : Nat} {m : List Int} (hn : 200 < m.length) (w : World) : Calls Tryd.prog 4 #[.agg (B32 (bdig n)), .agg (B32 (bdig q)), .slice ta m.length tc] w fun x w' => x = .returned (.bool true) ∧ Below w.heap.size w w' := by
  have hki : (200 : Int) < (m.length : Int) := by omega
  go_enter Tryd.func4, Tryd.ntmps4
  go_wp2
  go_ret
  exact ⟨rfl, ((Below.refl _ _).alloc (Nat.le_refl _) _).alloc (by simp) _⟩
end Go.Proofs.YtgibllaifnnfkaaDoor
namespace Go.Proofs.YtgibllaifnnfkaaDoor
open Go Go.RowKit
theorem twin_co {ta : Option Addr} {tc : Nat} {m : List Int} (hl : m.length ≤ 1000000) (w : World) (hm : Txt w ta tc m) : Calls Tryd.prog 13 #[.slice ta m.length tc] w fun e w' => ∃ v, e = .returned v ∧ (txR m).r w' v ∧ (∀ g ∈ blks v, w.heap.size ≤ g ∧ g < w'.heap.size) ∧ Below w.heap.size w w' := by
  refine (H.twin_any ta tc m w hm.1 hm.2 hl).mono ?_
  rintro e w' ⟨ja, jc, rfl, hO, hV, hg⟩
  obtain ⟨k1, k2⟩ := tx_own hO hm.1.2.2.2.1
  exact ⟨_, rfl, k1, k2, (Below.refl _ _).grown hg (Nat.le_refl _) (fun k e => by cases e)⟩
end Go.Proofs.YtgibllaifnnfkaaDoor
namespace Go.Proofs.YtgibllaifnnfkaaDoor
open Go Go.RowKit
theorem sopens_row {T : World → Prop} (F : Ste T) (hsum : ∀ (l : List Int) (v : Value) w, T w → Tx w v l → l.length ≤ 1000 → Calls Tryd.prog 12 #[v] w fun x w' => x = .returned (.agg (B32 (bdig (hn l)))) ∧ Below w.heap.size w w') (hwk : ∀ w, T w → Calls Tryd.prog 11 #[] w fun x w' => x = .returned (.bool true) ∧ Below w.heap.size w w') {n q : Nat} (lq : q < R256) {a : Option Addr} {len cap : Nat} {zs : List Int} {w : World} (h : IsRow .u8 w a len cap zs) (hT : T w) : Calls Tryd.prog 4 #[.agg (B32 (bdig n)), .agg (B32 (bdig q)), .slice a len cap] w fun x w' => x = .returned (.bool true) ∧ Below w.heap.size w w' := by
  obtain ⟨e, ht⟩ := txt_of_row h
  by_cases hn : (zs.take len).length ≤ 200
  · have := sopens_is F hsum hwk (n := n) (fun w hm => twin_co (by omega) w hm) lq hn w hT ht
    rw [← e] at this
    exact this
  · have := sopens_long (n := n) (q := q) (ta := a) (tc := cap) (m := zs.take len) (by omega) w
    rw [← e] at this
    exact this
end Go.Proofs.YtgibllaifnnfkaaDoor
namespace Go.Proofs.YtgibllaifnnfkaaDoor
open Go Go.RowKit
theorem slice_old {w w' : World} {g : Nat} {a : Option Addr} {c : Nat} {m : List Int} (h : Txt w a c m) (hB : Below w.heap.size w w') (hg : w.heap.size ≤ g) : J.SliceOf w' g (.slice a m.length c) m := J.BytesV.slice (show J.BytesV w a m.length c m from h.1) hB hg
theorem slice_at {w : World} {g b o c : Nat} {m : List Int} (h : Txt w (some ⟨b, o, none⟩) c m) (hb : b ≠ g) : J.SliceOf w g (.slice (some ⟨b, o, none⟩) m.length c) m := by
  obtain ⟨⟨h1, h2, h3, h4, h5⟩, -⟩ := h
  refine ⟨_, m.length, c, rfl, rfl, h2, h3, h4, fun hp => ?_⟩
  obtain ⟨b', off, e, hr⟩ := h5 hp
  simp only [Option.some.injEq, Addr.mk.injEq] at e
  obtain ⟨rfl, rfl, -⟩ := e
  exact ⟨b, o, rfl, hb, hr⟩
theorem kp_grown {l : List (Nat × Array Value × TypeId)} {w0 w w' : World} {g : Nat} (h : Kp l w0 w) (hg : w.grownBy w' (some g)) (hb : w0.heap.size ≤ g) (hl : ∀ p ∈ l, p.1 ≠ g) : Kp l w0 w' :=
  ⟨fun p hp => by
    have h1 := h.1 p hp
    unfold Own
    rw [hg.block _ h1.lt (fun e => hl p hp (Option.some.inj e))]
    exact h1, J.below_grown h.2 hg h.2.size hb⟩
set_option maxRecDepth 100000 in
set_option maxHeartbeats 1000000 in
theorem osum_is {x : Int} (hx : 0 ≤ x ∧ x < 256) {p : Nat} {ta : Option Addr} {tc : Nat} {m : List Int} (hl : m.length ≤ 1000) (w : World) (hT : J.Tabs w) (hm : Txt w ta tc m) :
    Calls Tryd.prog 27 #[.int .u8 x, .agg (B32 (bdig p)), .slice ta m.length tc] w fun e w' => e = .returned (.agg (B32 (bdig (hn (x :: (by32 p ++ m)))))) ∧ Below w.heap.size w w' := by
  have hz := (zero_of_info zeroB32).1
  obtain ⟨y, Hy⟩ : ∃ y, Hid (hn (x :: (by32 p ++ m)) = y) := ⟨_, rfl⟩
  have hl := show Hid _ from hl
  have hx := show Hid _ from hx
  go_enter Tryd.func27, Tryd.ntmps27
  go_upto_region 1 with fail
  have hK := ((Kp.nil w).alloc (B32 (bdig p)) 22).alloc (B32 fun _ => 0) 22
  rw [World.size_alloc] at hK
  generalize (w.alloc (.cells (B32 (bdig p)) 22)).alloc (.cells (B32 fun _ => 0) 22) = W at *
  obtain ⟨bA, HbA⟩ : ∃ b, Hid (w.heap.size = b) := ⟨_, rfl⟩
  obtain ⟨bR, HbR⟩ : ∃ b, Hid (bA + 1 = b) := ⟨_, rfl⟩
  rw [HbA.out, HbR.out] at hK ⊢
  have hTx := hT.below hK.2
  have lt_bA := (hK.at bA (B32 (bdig p)) 22 (.tail _ (.head _))).lt
  have lt_bR := (hK.at bR (B32 fun _ => 0) 22 (.head _)).lt
  have hgt : 2 < W.heap.size ∧ 5 < W.heap.size := ⟨hTx.2.1, hTx.1.1⟩
  have hbs := show Hid _ from hK.2.size
  go_wp2_with fail
  refine (J.new_any W).mono ?_
  rintro e W1 ⟨rfl, hS, bw, hlt⟩
  have hK := hK.below bw
  have hTx := hTx.below bw
  obtain ⟨s, Hs⟩ : ∃ s, Hid (W.heap.size = s) := ⟨_, rfl⟩
  have hbs : Hid (w.heap.size ≤ s) := by show _ ≤ _; rw [← Hs.out]; exact hbs.out
  have hne : Hid (bA < s ∧ bR < s) := by show _ ∧ _; rw [← Hs.out]; exact ⟨lt_bA, lt_bR⟩
  have hgt : Hid (2 < s ∧ 5 < s) := by show _ ∧ _; rw [← Hs.out]; exact hgt
  rw [Hs.out] at hS hlt ⊢
  clear bw lt_bA lt_bR
  go_upto_region 2 with fail
  go_wp2_with fail
  have hS := hS.below (alloc_below W1 (.cells #[.int .u8 x] 5)) hlt
  have hsl := slice_at (g := s) (txt_byte (own_new W1 #[.int .u8 x] 5).rowAt hx.out) (by omega)
  have hK := hK.below (alloc_below W1 (.cells #[.int .u8 x] 5))
  have hTx := hTx.below (alloc_below W1 (.cells #[.int .u8 x] 5))
  refine (J.write_any s [] [x] _ _ _ _ hS hsl hTx hgt.out (by simp)).mono ?_
  rintro e W2 ⟨rfl, hS, hg⟩
  have hnl : ∀ p' ∈ [(bR, B32 fun _ => 0, 22), (bA, B32 (bdig p), 22)], p'.1 ≠ s := by
    have := hne.out
    intro p' hp'
    simp only [List.mem_cons, List.not_mem_nil, or_false] at hp'
    rcases hp' with rfl | rfl
    · exact Nat.ne_of_lt this.2
    · exact Nat.ne_of_lt this.1
  have hnl := show Hid _ from hnl
  have hK := kp_grown hK hg hbs.out hnl.out
  have hTx := hTx.grown hg hgt.out
  clear hg hsl hlt
  rw [List.nil_append] at hS
  go_upto_region 3 with fail
  go_wp2_with fail
  have hsl := slice_at (g := s) (show Txt W2 (some ⟨bA, 0, none⟩) 32 (by32 p) from ⟨by rw [by32_length]; exact bytes_own (hK.at bA (B32 (bdig p)) 22 (.tail _ (.head _))), fun e => by cases e⟩) (Nat.ne_of_lt hne.out.1)
  rw [by32_length] at hsl
  refine (J.write_any s [x] (by32 p) _ _ _ _ hS hsl hTx hgt.out (by rw [by32_length]; simp)).mono ?_
  rintro e W3 ⟨rfl, hS, hg⟩
  have hK := kp_grown hK hg hbs.out hnl.out
  have hTx := hTx.grown hg hgt.out
  clear hg hsl
  go_upto_region 4 with fail
  go_wp2_with fail
  refine (J.write_any s ([x] ++ by32 p) m _ _ _ _ hS (slice_old hm hK.2 hbs.out) hTx hgt.out (by have := hl.out; rw [List.length_append, by32_length]; simp; omega)).mono ?_
  rintro e W4 ⟨rfl, hS, hg⟩
  have hK := kp_grown hK hg hbs.out hnl.out
  have hTx := hTx.grown hg hgt.out
  clear hg
  go_upto_region 5 with fail
  go_wp2_with fail
  refine (J.sumM_any s _ _ hS hTx (by have := hl.out; rw [List.length_append, List.length_append, by32_length]; simp; omega)).mono ?_
  rintro e W5 ⟨rfl, bw⟩
  have hK := hK.below bw
  have e5 : (J.u8s (J.digest ([x] ++ by32 p ++ m))).toArray = B32 (bdig y) := by rw [← Hy.out, ← dig_hn]; rfl
  rw [e5]
  clear e5 bw
  go_wp2_with (refine wpList_store_own (op := { dst := none, op := _, type := _, pos := _, after := _, guard := _ }) rfl 22 (.tmp 6) (.tmp 20) rfl bR 0 (B32 (bdig y)) (by rfl) (by rfl) (hK.at bR (B32 fun _ => 0) 22 (.head _)) (B32_le _ _) (B32_info _) (B32_one _) (by rfl) ?_)
  refine bodyPost_ret (results_own Tryd.results27 _ _ bR (B32 (bdig y)) _ (by rfl) (own_setCells (hK.at bR (B32 fun _ => 0) 22 (.head _)) (B32_sizes _ _)) Tryd.underlying22 rfl (B32_info _)) rfl ⟨by rw [Hy.out], Below.setCells _ _ _ _ ?_ hK.2⟩
  have := HbA.out
  have := HbR.out
  omega
end Go.Proofs.YtgibllaifnnfkaaDoor
