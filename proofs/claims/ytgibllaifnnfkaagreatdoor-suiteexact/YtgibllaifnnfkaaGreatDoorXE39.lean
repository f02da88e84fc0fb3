/- Of the texts RW, UV1, UV2, UV3, UW1: what the card of this claim reaches. -/
import Derived.Test.YtgibllaifnnfkaaGreatDoorXE23
import Derived.Test.YtgibllaifnnfkaaGreatDoorXE25
import Derived.Test.YtgibllaifnnfkaaGreatDoorXE27
import Derived.Test.YtgibllaifnnfkaaGreatDoorXE4
namespace Go.Proofs.YtgibllaifnnfkaaGreatDoor
open Go.ChangeShapes Go.WideShapes Go.ChangeAt Go.RowKit
theorem cellsB64 : Tryz.prog.cellsOf 24 = 64 := by kernel_rfl
theorem vb_lt64 (f : Nat → Nat) (h : ∀ i, i < 64 → f i < 256) : vb f 64 < R512 := by rw [show R512 = 256 ^ 64 by decide]; exact vb_lt f 64 h
set_option maxRecDepth 100000 in
theorem open_b64 {H : Type} {enc : TypeId × Value → H} {W : World} {r : Reach} {b0 base : Nat} {spare : Nat → Bool} {held : Bool} {v : Value} {d : DataW H} {p : List MemPlace}
    (hval : Value.okWide Tryz.prog W r b0 24 v) (h : DataW.Trod enc Tryz.prog W base spare held 24 v d p) : ∃ n, n < R512 ∧ v = .agg (B64 (bdig n)) := by
  unfold Value.okWide at hval
  rw [Tryz.underlying24] at hval
  obtain ⟨cs, rfl, hsz, -⟩ := hval
  rw [cellsB64] at hsz
  obtain ⟨fuel, hf⟩ := h
  obtain ⟨xs, m, -, -, -, hxl, hx⟩ := DataW.trod_array Tryz.underlying24 hf
  rw [cellsU8] at hx
  have hc : ∀ i, i < 64 → ∃ k : Nat, k < 256 ∧ cs[i]? = some (.int .u8 (k : Int)) := fun i hi => by
    have h1 := hx i hi
    rw [List.getElem?_eq_getElem (by omega)] at h1
    obtain ⟨n, hn, -, hw⟩ := DataW.trod_int Tryz.underlying5 h1
    have hb := bounds_u8 hw
    rw [Nat.mul_one] at hn
    have hi' : i < cs.size := by omega
    have h2 : cs[i]? = some (.int .u8 n) := by
      have := congrArg (·[0]?) hn
      simp only [Value.cells, List.getElem?_take, List.getElem?_drop] at this
      simpa using this
    exact ⟨n.toNat, by omega, by rw [h2, Int.toNat_of_nonneg hb.1]⟩
  have hf : cs = B64 fun i => byteOf (cs.getD i undef) := by
    apply Array.ext_getElem?
    intro i
    by_cases hi : i < 64
    · obtain ⟨k, hk, e⟩ := hc i hi
      rw [B64_at _ i hi, e]
      simp [Array.getD_eq_getD_getElem?, e, byteOf]
    · rw [Array.getElem?_eq_none (by omega), Array.getElem?_eq_none (by rw [B64_size]; omega)]
  have hlt : ∀ i, i < 64 → byteOf (cs.getD i undef) < 256 := fun i hi => by
    obtain ⟨k, hk, e⟩ := hc i hi
    simp [Array.getD_eq_getD_getElem?, e, byteOf]; exact hk
  refine ⟨vb (fun i => byteOf (cs.getD i undef)) 64, vb_lt64 _ hlt, ?_⟩
  conv => lhs; rw [hf]
  rw [B64_ext fun i hi => (bdig_vb _ 64 hlt i hi).symm]
end Go.Proofs.YtgibllaifnnfkaaGreatDoor
namespace Go.Proofs.YtgibllaifnnfkaaGreatDoor
open Go Go.RowKit
theorem slice_old {w w' : World} {g : Nat} {a : Option Addr} {c : Nat} {m : List Int} (h : Txt w a c m) (hB : Below w.heap.size w w') (hg : w.heap.size ≤ g) : J.SliceOf w' g (.slice a m.length c) m := J.BytesV.slice (show J.BytesV w a m.length c m from h.1) hB hg
theorem slice_at {w : World} {g b o c : Nat} {m : List Int} (h : Txt w (some ⟨b, o, none⟩) c m) (hb : b ≠ g) : J.SliceOf w g (.slice (some ⟨b, o, none⟩) m.length c) m := by
  obtain ⟨⟨h1, h2, h3, h4, h5⟩, -⟩ := h
  refine ⟨_, m.length, c, rfl, rfl, h2, h3, h4, fun hp => ?_⟩
  obtain ⟨b', off, e, hr⟩ := h5 hp
  simp only [Option.some.injEq, Addr.mk.injEq] at e
  obtain ⟨rfl, rfl, -⟩ := e
  exact ⟨b, o, rfl, hb, hr⟩
theorem kp_grown {l : List (Nat × Array Value × TypeId)} {w0 w w' : World} {g : Nat} (h : Kp l w0 w) (hg : w.grownBy w' (some g)) (hb : w0.heap.size ≤ g) (hl : ∀ p ∈ l, p.1 ≠ g) : Kp l w0 w' :=
  ⟨fun p hp => by
    have h1 := h.1 p hp
    unfold Own
    rw [hg.block _ h1.lt (fun e => hl p hp (Option.some.inj e))]
    exact h1, J.below_grown h.2 hg h.2.size hb⟩
set_option maxRecDepth 100000 in
set_option maxHeartbeats 1000000 in
theorem osum_is {x : Int} (hx : 0 ≤ x ∧ x < 256) {p : Nat} {ta : Option Addr} {tc : Nat} {m : List Int} (hl : m.length ≤ 1000) (w : World) (hT : J.Tabs w) (hm : Txt w ta tc m) :
    Calls Tryz.prog 27 #[.int .u8 x, .agg (B32 (bdig p)), .slice ta m.length tc] w fun e w' => e = .returned (.agg (B32 (bdig (hn (x :: (by32 p ++ m)))))) ∧ Below w.heap.size w w' := by
  have hz := (zero_of_info zeroB32).1
  obtain ⟨y, Hy⟩ : ∃ y, Hid (hn (x :: (by32 p ++ m)) = y) := ⟨_, rfl⟩
  have hl := show Hid _ from hl
  have hx := show Hid _ from hx
  go_enter Tryz.func27, Tryz.ntmps27
  go_upto_region 1 with fail
  have hK := ((Kp.nil w).alloc (B32 (bdig p)) 22).alloc (B32 fun _ => 0) 22
  rw [World.size_alloc] at hK
  generalize (w.alloc (.cells (B32 (bdig p)) 22)).alloc (.cells (B32 fun _ => 0) 22) = W at *
  obtain ⟨bA, HbA⟩ : ∃ b, Hid (w.heap.size = b) := ⟨_, rfl⟩
  obtain ⟨bR, HbR⟩ : ∃ b, Hid (bA + 1 = b) := ⟨_, rfl⟩
  rw [HbA.out, HbR.out] at hK ⊢
  have hTx := hT.below hK.2
  have lt_bA := (hK.at bA (B32 (bdig p)) 22 (.tail _ (.head _))).lt
  have lt_bR := (hK.at bR (B32 fun _ => 0) 22 (.head _)).lt
  have hgt : 3 < W.heap.size ∧ 5 < W.heap.size := ⟨hTx.2.1, hTx.1.1⟩
  have hbs := show Hid _ from hK.2.size
  go_wp2_with fail
  refine (J.new_any W).mono ?_
  rintro e W1 ⟨rfl, hS, bw, hlt⟩
  have hK := hK.below bw
  have hTx := hTx.below bw
  obtain ⟨s, Hs⟩ : ∃ s, Hid (W.heap.size = s) := ⟨_, rfl⟩
  have hbs : Hid (w.heap.size ≤ s) := by show _ ≤ _; rw [← Hs.out]; exact hbs.out
  have hne : Hid (bA < s ∧ bR < s) := by show _ ∧ _; rw [← Hs.out]; exact ⟨lt_bA, lt_bR⟩
  have hgt : Hid (3 < s ∧ 5 < s) := by show _ ∧ _; rw [← Hs.out]; exact hgt
  rw [Hs.out] at hS hlt ⊢
  clear bw lt_bA lt_bR
  go_upto_region 2 with fail
  go_wp2_with fail
  have hS := hS.below (alloc_below W1 (.cells #[.int .u8 x] 5)) hlt
  have hsl := slice_at (g := s) (txt_byte (own_new W1 #[.int .u8 x] 5).rowAt hx.out) (by omega)
  have hK := hK.below (alloc_below W1 (.cells #[.int .u8 x] 5))
  have hTx := hTx.below (alloc_below W1 (.cells #[.int .u8 x] 5))
  refine (J.write_any s [] [x] _ _ _ _ hS hsl hTx hgt.out (by simp)).mono ?_
  rintro e W2 ⟨rfl, hS, hg⟩
  have hnl : ∀ p' ∈ [(bR, B32 fun _ => 0, 22), (bA, B32 (bdig p), 22)], p'.1 ≠ s := by
    have := hne.out
    intro p' hp'
    simp only [List.mem_cons, List.not_mem_nil, or_false] at hp'
    rcases hp' with rfl | rfl
    · exact Nat.ne_of_lt this.2
    · exact Nat.ne_of_lt this.1
  have hnl := show Hid _ from hnl
  have hK := kp_grown hK hg hbs.out hnl.out
  have hTx := hTx.grown hg hgt.out
  clear hg hsl hlt
  rw [List.nil_append] at hS
  go_upto_region 3 with fail
  go_wp2_with fail
  have hsl := slice_at (g := s) (show Txt W2 (some ⟨bA, 0, none⟩) 32 (by32 p) from ⟨by rw [by32_length]; exact bytes_own (hK.at bA (B32 (bdig p)) 22 (.tail _ (.head _))), fun e => by cases e⟩) (Nat.ne_of_lt hne.out.1)
  rw [by32_length] at hsl
  refine (J.write_any s [x] (by32 p) _ _ _ _ hS hsl hTx hgt.out (by rw [by32_length]; simp)).mono ?_
  rintro e W3 ⟨rfl, hS, hg⟩
  have hK := kp_grown hK hg hbs.out hnl.out
  have hTx := hTx.grown hg hgt.out
  clear hg hsl
  go_upto_region 4 with fail
  go_wp2_with fail
  refine (J.write_any s ([x] ++ by32 p) m _ _ _ _ hS (slice_old hm hK.2 hbs.out) hTx hgt.out (by have := hl.out; rw [List.length_append, by32_length]; simp; omega)).mono ?_
  rintro e W4 ⟨rfl, hS, hg⟩
  have hK := kp_grown hK hg hbs.out hnl.out
  have hTx := hTx.grown hg hgt.out
  clear hg
  go_upto_region 5 with fail
  go_wp2_with fail
  refine (J.sumM_any s _ _ hS hTx (by have := hl.out; rw [List.length_append, List.length_append, by32_length]; simp; omega)).mono ?_
  rintro e W5 ⟨rfl, bw⟩
  have hK := hK.below bw
  have e5 : (J.u8s (J.digest ([x] ++ by32 p ++ m))).toArray = B32 (bdig y) := by rw [← Hy.out, ← dig_hn]; rfl
  rw [e5]
  clear e5 bw
  go_wp2_with (refine wpList_store_own (op := { dst := none, op := _, type := _, pos := _, after := _, guard := _ }) rfl 22 (.tmp 6) (.tmp 20) rfl bR 0 (B32 (bdig y)) (by rfl) (by rfl) (hK.at bR (B32 fun _ => 0) 22 (.head _)) (B32_le _ _) (B32_info _) (B32_one _) (by rfl) ?_)
  refine bodyPost_ret (results_own Tryz.results27 _ _ bR (B32 (bdig y)) _ (by rfl) (own_setCells (hK.at bR (B32 fun _ => 0) 22 (.head _)) (B32_sizes _ _)) Tryz.underlying22 rfl (B32_info _)) rfl ⟨by rw [Hy.out], Below.setCells _ _ _ _ ?_ hK.2⟩
  have := HbA.out
  have := HbR.out
  omega
end Go.Proofs.YtgibllaifnnfkaaGreatDoor
namespace Go.Proofs.YtgibllaifnnfkaaGreatDoor
open Go Go.RowKit
theorem osum_as {x : Int} (hx : 0 ≤ x ∧ x < 256) {p y : Nat} {ta : Option Addr} {tc : Nat} {m : List Int} (hy : hn (x :: (by32 p ++ m)) = y) (hl : m.length ≤ 1000) (w : World) (hT : J.Tabs w) (hm : Txt w ta tc m) :
    Calls Tryz.prog 27 #[.int .u8 x, .agg (B32 (bdig p)), .slice ta m.length tc] w fun e w' => e = .returned (.agg (B32 (bdig y))) ∧ Below w.heap.size w w' := by
  subst hy
  exact osum_is hx hl w hT hm
set_option maxRecDepth 100000 in
set_option maxHeartbeats 400000 in
theorem opublic_is (n : Nat) (w : World) (hT : J.Tabs w) : Calls Tryz.prog 15 #[.agg (B32 (bdig n))] w fun e w' => e = .returned (.agg (B32 (bdig (opub n)))) ∧ Below w.heap.size w w' := by
  have hz := (zero_of_info zeroB32).1
  obtain ⟨y, Hy⟩ : ∃ y, Hid (opub n = y) := ⟨_, rfl⟩
  have Hs : Hid (hn (1 :: (by32 n ++ [])) = y) := by show _ = _; rw [List.append_nil]; exact Hy.out
  go_enter Tryz.func15, Tryz.ntmps15
  go_upto_region 1 with fail
  have hK := ((Kp.nil w).alloc (B32 (bdig n)) 22).alloc (B32 fun _ => 0) 22
  rw [World.size_alloc] at hK
  generalize (w.alloc (.cells (B32 (bdig n)) 22)).alloc (.cells (B32 fun _ => 0) 22) = W at *
  obtain ⟨bA, HbA⟩ : ∃ b, Hid (w.heap.size = b) := ⟨_, rfl⟩
  obtain ⟨bR, HbR⟩ : ∃ b, Hid (bA + 1 = b) := ⟨_, rfl⟩
  have le_bR : Hid (w.heap.size ≤ bR) := by show _ ≤ _; have := HbA.out; have := HbR.out; omega
  rw [HbA.out, HbR.out] at hK ⊢
  go_wp2_with (refine wpList_load_own (by rfl) 22 (.tmp 1) (by rfl) bA (by rfl) (B32 (bdig n)) _ (hK.at bA (B32 (bdig n)) 22 (.tail _ (.head _))) Tryz.underlying22 (by rfl) (B32_info _) ?_)
  refine (osum_as (x := 1) (by decide) Hs.out (by decide) _ (hT.below hK.2) (txt_nil _)).mono ?_
  rintro e V5 ⟨rfl, bw⟩
  have hK := hK.below bw
  clear bw
  go_wp2_with (refine wpList_store_own (op := { dst := none, op := _, type := _, pos := _, after := _, guard := _ }) rfl 22 (.tmp 2) (.tmp 4) rfl bR 0 (B32 (bdig y)) (by rfl) (by rfl) (hK.at bR (B32 fun _ => 0) 22 (.head _)) (B32_le _ _) (B32_info _) (B32_one _) (by rfl) ?_)
  exact bodyPost_ret (results_own Tryz.results15 _ _ bR (B32 (bdig y)) _ (by rfl) (own_setCells (hK.at bR (B32 fun _ => 0) 22 (.head _)) (B32_sizes _ _)) Tryz.underlying22 rfl (B32_info _)) rfl ⟨by rw [Hy.out], Below.setCells _ _ _ _ le_bR.out hK.2⟩
set_option maxRecDepth 100000 in
set_option maxHeartbeats 400000 in
theorem osig_is {p : Nat} {ta : Option Addr} {tc : Nat} {m : List Int} (hl : m.length ≤ 1000) (w : World) (hT : J.Tabs w) (hm : Txt w ta tc m) :
    Calls Tryz.prog 17 #[.agg (B32 (bdig p)), .slice ta m.length tc] w fun e w' => e = .returned (.agg (B64 (bdig (two (oR p m) (oS p m))))) ∧ Below w.heap.size w w' := by
  have hz := (zero_of_info zeroB32).1
  have hz64 := (zero_of_info zeroB64).1
  obtain ⟨R, HR⟩ : ∃ y, Hid (oR p m = y) := ⟨_, rfl⟩
  obtain ⟨S, HS⟩ : ∃ y, Hid (oS p m = y) := ⟨_, rfl⟩
  have lR : Hid (R < R256) := by show _ < _; rw [← HR.out]; exact oR_lt _ _
  have Hr : Hid (hn (2 :: (by32 p ++ m)) = R) := HR
  have Hs : Hid (hn (3 :: (by32 p ++ m)) = S) := HS
  have hl := show Hid _ from hl
  rw [HR.out, HS.out]
  go_enter Tryz.func17, Tryz.ntmps17
  go_upto_region 1 with fail
  have hK := ((Kp.nil w).alloc (B32 (bdig p)) 22).alloc (B64 fun _ => 0) 24
  rw [World.size_alloc] at hK
  generalize (w.alloc (.cells (B32 (bdig p)) 22)).alloc (.cells (B64 fun _ => 0) 24) = W at *
  obtain ⟨bA, HbA⟩ : ∃ b, Hid (w.heap.size = b) := ⟨_, rfl⟩
  obtain ⟨bR, HbR⟩ : ∃ b, Hid (bA + 1 = b) := ⟨_, rfl⟩
  have le_bR : Hid (w.heap.size ≤ bR) := by show _ ≤ _; have := HbA.out; have := HbR.out; omega
  rw [HbA.out, HbR.out] at hK ⊢
  refine wp_region_lv 21 (fun _ => [(bR, B64 fun _ => 0, 24), (bA, B32 (bdig p), 22)]) [.v (.agg (B32 (bdig p))), .v (.slice ta m.length tc), .v (.agg (B32 (bdig R))), .v (.agg (B32 (bdig p))), .v (.slice ta m.length tc), .v (.agg (B32 (bdig S))), .mk (B32 fun _ => 0) (B32 (bdig R)) 22 8, .mk (B32 fun _ => 0) (B32 (bdig S)) 22 9, .o, .o] hK (by kernel_rfl) (by kernel_rfl) (by kernel_rfl) (by rfl) (.c (.ld bA (fun _ => .tail _ (.head _)) Tryz.underlying22 rfl (B32_info _)) <| .c (.p1 1 (.slice ta m.length tc)) <| .c (.ca fun _ w hk => osum_as (x := 2) (by decide) Hr.out hl.out w (hT.below hk.2) (hm.below hk.2)) <| .c (.ld bA (fun _ => .tail _ (.head _)) Tryz.underlying22 rfl (B32_info _)) <| .c (.p1 1 (.slice ta m.length tc)) <| .c (.ca fun _ w hk => osum_as (x := 3) (by decide) Hs.out hl.out w (hT.below hk.2) (hm.below hk.2)) <| .c (.al hz) <| .c (.al hz) <| .c (.st 6 (B32_info _) (B32_one _)) <| .c (.st 7 (B32_info _) (B32_one _)) .nil) ?_
  intro vs V1 hJ hf
  obtain ⟨g2, eg2⟩ := hf 6 _ _ rfl rfl
  obtain ⟨le_g2, ap_g2, o_g2⟩ := hJ.got 6 eg2
  obtain ⟨g3, eg3⟩ := hf 7 _ _ rfl rfl
  obtain ⟨le_g3, ap_g3, o_g3⟩ := hJ.got 7 eg3
  have ne_g2_g3 := hJ.apart 6 7 eg2 eg3
  have ne_bR_g2 : Hid (bR ≠ g2) := ap_g2 (bR, B64 fun _ => 0, 24) (.head _)
  have ne_bR_g3 : Hid (bR ≠ g3) := ap_g3 (bR, B64 fun _ => 0, 24) (.head _)
  have hK : Kp [(g3, B32 (bdig S), 22), (g2, B32 (bdig R), 22), (bR, B64 fun _ => 0, 24), (bA, B32 (bdig p), 22)] w V1 := ((hJ.1.cons o_g2).cons o_g3)
  replace hK : Kp [(g3, B32 (bdig S), 22), (g2, B32 (bdig R), 22), (bR, B64 fun _ => 0, 24)] w V1 := hK.sub fun p hp => by simp at hp ⊢; rcases hp with h | h | h <;> simp [h]
  simp only [putL, Lv.val, Nat.zero_add, Nat.reduceAdd, eg2, eg3, Act.put, List.setIfInBounds_toArray, List.set_cons_succ, List.set_cons_zero]
  clear hJ hf eg2 eg3 ap_g2 ap_g3 o_g2 o_g3
  clear vs
  go_upto_region 3 with fail
  have lt_g3 := (hK.at g3 (B32 (bdig S)) 22 (.head _)).lt
  have lt_g2 := (hK.at g2 (B32 (bdig R)) 22 (.tail _ (.head _))).lt
  have lt_bR := (hK.at bR (B64 fun _ => 0) 24 (.tail _ (.tail _ (.head _)))).lt
  have le_b4 := show Hid _ from hK.2.size
  have hK := hK.alloc (B64 fun _ => 0) 24
  generalize V1.alloc (.cells (B64 fun _ => 0) 24) = V2 at *
  obtain ⟨b4, Hb4⟩ : ∃ b, Hid (V1.heap.size = b) := ⟨_, rfl⟩
  have ne_g3_b4 : Hid (g3 ≠ b4) := by show _ ≠ _; rw [← Hb4.out]; exact Nat.ne_of_lt lt_g3
  have ne_g2_b4 : Hid (g2 ≠ b4) := by show _ ≠ _; rw [← Hb4.out]; exact Nat.ne_of_lt lt_g2
  have ne_bR_b4 : Hid (bR ≠ b4) := by show _ ≠ _; rw [← Hb4.out]; exact Nat.ne_of_lt lt_bR
  have le_b4 : Hid (w.heap.size ≤ b4) := by show _ ≤ _; rw [← Hb4.out]; exact le_b4.out
  rw [Hb4.out] at hK ⊢
  clear lt_g3 lt_g2 lt_bR
  refine wp_region_lv 21 (fun L => [(b4, if L 2 = true then B64 (bdig (two R 0)) else B64 fun _ => 0, 24), (g3, B32 (bdig S), 22), (g2, B32 (bdig R), 22), (bR, B64 fun _ => 0, 24)]) [.v (.slice (some ⟨b4, 0, none⟩) 32 64), .v (.slice (some ⟨g2, 0, none⟩) 32 32), .v (.int .i64 (32))] hK (by kernel_rfl) (by kernel_rfl) (by kernel_rfl) (by rfl) ?_ ?_
  · exact .c (.p1 7 (.pointer (some ⟨b4, 0, none⟩))) <| .c (.p1 5 (.pointer (some ⟨g2, 0, none⟩))) <| .c (.xr [(14, .slice (some ⟨b4, 0, none⟩) 32 64), (15, .slice (some ⟨g2, 0, none⟩) 32 32)] b4 (.hr (fun _ => rfl) (fun _ => rfl) (fun _ => fc ne_g3_b4 <| fc ne_g2_b4 <| fc ne_bR_b4 <| fn)) le_b4.out fun _ ac wc _ _ hfx _ hkx hjo hx => by have f31 := hfx _ (.head _); have f32 := hfx _ (.tail _ (.head _)); have hrg : wc.rangeAt g2 0 (B32 (bdig R)).toList := (hkx.at g2 (B32 (bdig R)) 22 (.tail _ (.tail _ (.head _)))).range; refine wp_copy_at (.tmp 14) (.tmp 15) 23 23 rfl 5 Tryz.underlying23 infoU8s b4 0 32 64 g2 0 32 32 f31 f32 hjo _ hrg (by rw [B32_len0]; rfl) (by rw [B32_len0, B64_size]; decide) (B32_ones _) ?_; rw [join_lo lR.out, B32_len0]; exact hx _ rfl) .nil
  intro _ V3 hJ _
  have hK : Kp [(b4, B64 (bdig (two R 0)), 24), (g3, B32 (bdig S), 22), (g2, B32 (bdig R), 22), (bR, B64 fun _ => 0, 24)] w V3 := hJ.1
  clear hJ
  simp only [putL, Lv.val, Act.put, List.setIfInBounds_toArray, List.set_cons_succ, List.set_cons_zero]
  go_upto_region 4 with fail
  refine wp_region_lv 21 (fun L => [(b4, if L 2 = true then B64 (bdig (two R S)) else B64 (bdig (two R 0)), 24), (g3, B32 (bdig S), 22), (g2, B32 (bdig R), 22), (bR, B64 fun _ => 0, 24)]) [.v (.slice (some ⟨b4, 32, none⟩) 32 32), .v (.slice (some ⟨g3, 0, none⟩) 32 32), .v (.int .i64 (32))] hK (by kernel_rfl) (by kernel_rfl) (by kernel_rfl) (by rfl) ?_ ?_
  · exact .c (.p1 7 (.pointer (some ⟨b4, 0, none⟩))) <| .c (.p1 6 (.pointer (some ⟨g3, 0, none⟩))) <| .c (.xr [(17, .slice (some ⟨b4, 32, none⟩) 32 32), (18, .slice (some ⟨g3, 0, none⟩) 32 32)] b4 (.hr (fun _ => rfl) (fun _ => rfl) (fun _ => fc ne_g3_b4 <| fc ne_g2_b4 <| fc ne_bR_b4 <| fn)) le_b4.out fun _ ac wc _ _ hfx _ hkx hjo hx => by have f34 := hfx _ (.head _); have f35 := hfx _ (.tail _ (.head _)); have hrg : wc.rangeAt g3 0 (B32 (bdig S)).toList := (hkx.at g3 (B32 (bdig S)) 22 (.tail _ (.head _))).range; refine wp_copy_at (.tmp 17) (.tmp 18) 23 23 rfl 5 Tryz.underlying23 infoU8s b4 32 32 32 g3 0 32 32 f34 f35 hjo _ hrg (by rw [B32_len0]; rfl) (by rw [B32_len0, B64_size]; decide) (B32_ones _) ?_; rw [join_hi lR.out S, B32_len0]; exact hx _ rfl) .nil
  intro _ V4 hJ _
  have hK : Kp [(b4, B64 (bdig (two R S)), 24), (g3, B32 (bdig S), 22), (g2, B32 (bdig R), 22), (bR, B64 fun _ => 0, 24)] w V4 := hJ.1
  clear hJ
  simp only [putL, Lv.val, Act.put, List.setIfInBounds_toArray, List.set_cons_succ, List.set_cons_zero]
  go_wp2_with (first
    | refine wpList_load_own (by rfl) 24 (.tmp 7) (by rfl) b4 (by rfl) (B64 (bdig (two R S))) _ (hK.at b4 (B64 (bdig (two R S))) 24 (.head _)) Tryz.underlying24 (by rfl) (B64_info _) ?_
    | refine wpList_store_own (op := { dst := none, op := _, type := _, pos := _, after := _, guard := _ }) rfl 24 (.tmp 4) (.tmp 20) rfl bR 0 (B64 (bdig (two R S))) (by rfl) (by rfl) (hK.at bR (B64 fun _ => 0) 24 (.tail _ (.tail _ (.tail _ (.head _))))) (B64_le _ _) (B64_info _) (B64_one _) (by rfl) ?_)
  exact bodyPost_ret (results_own Tryz.results17 _ _ bR (B64 (bdig (two R S))) _ (by rfl) (own_setCells (hK.at bR (B64 fun _ => 0) 24 (.tail _ (.tail _ (.tail _ (.head _))))) (B64_sizes _ _)) Tryz.underlying24 rfl (B64_info _)) rfl ⟨rfl, Below.setCells _ _ _ _ le_bR.out hK.2⟩
end Go.Proofs.YtgibllaifnnfkaaGreatDoor
namespace Go.Proofs.YtgibllaifnnfkaaGreatDoor
open Go Go.RowKit
section
variable {T : World → Prop} (F : Low T) (hJ : ∀ w, T w → J.Tabs w)
set_option maxRecDepth 100000 in
set_option maxHeartbeats 400000 in
include F hJ in
theorem spub_is {kind : Int} (hk : kind = 1 ∨ kind = 2) (n : Nat) (w : World) (hT : T w) : Calls Tryz.prog 5 #[.int .i64 kind, .agg (B32 (bdig n))] w fun x w' => x = .returned (.tuple #[.agg (B32 (bdig (pubK kind n))), .int .i64 0]) ∧ Below w.heap.size w w' := by
  have hz := (zero_of_info zeroB32).1
  obtain ⟨y, Hy⟩ : ∃ y, Hid (pubK kind n = y) := ⟨_, rfl⟩
  have h1 : Hid (kind = 1 → ∀ w, T w → Calls Tryz.prog 14 #[.agg (B32 (bdig n))] w fun x w' => x = .returned (.agg (B32 (bdig y))) ∧ Below w.heap.size w w') := fun e w hT => by
    subst e
    rw [← Hy.out, show pubK 1 n = pubOf n from if_pos rfl]
    exact public_is F n w hT
  have h2 : Hid (kind = 2 → ∀ w, T w → Calls Tryz.prog 15 #[.agg (B32 (bdig n))] w fun x w' => x = .returned (.agg (B32 (bdig y))) ∧ Below w.heap.size w w') := fun e w hT => by
    subst e
    rw [← Hy.out, show pubK 2 n = opub n from if_neg (by decide)]
    exact opublic_is n w (hJ w hT)
  rw [Hy.out]
  clear Hy
  rcases hk with rfl | rfl
  all_goals
    go_enter Tryz.func5, Tryz.ntmps5
    go_upto_region 1 with fail
    have hK := ((Kp.nil w).alloc (B32 (bdig n)) 22).alloc (B32 fun _ => 0) 22
    rw [World.size_alloc] at hK
    generalize (w.alloc (.cells (B32 (bdig n)) 22)).alloc (.cells (B32 fun _ => 0) 22) = W at *
    obtain ⟨bA, HbA⟩ : ∃ b, Hid (w.heap.size = b) := ⟨_, rfl⟩
    obtain ⟨bR, HbR⟩ : ∃ b, Hid (bA + 1 = b) := ⟨_, rfl⟩
    have le_bR : Hid (w.heap.size ≤ bR) := by show _ ≤ _; have := HbA.out; have := HbR.out; omega
    rw [HbA.out, HbR.out] at hK ⊢
    go_wp2_with (refine wpList_load_own (by rfl) 22 (.tmp 3) (by rfl) bA (by rfl) (B32 (bdig n)) _ (hK.at bA (B32 (bdig n)) 22 (.tail _ (.head _))) Tryz.underlying22 (by rfl) (B32_info _) ?_)
    first | refine (h1.out (by trivial) _ (F.keep _ _ hT hK.2)).mono ?_ | refine (h2.out (by trivial) _ (F.keep _ _ hT hK.2)).mono ?_
    rintro e V5 ⟨rfl, bw⟩
    have hK := hK.below bw
    clear bw
    go_wp2_with (first
      | refine wpList_store_own (op := { dst := none, op := _, type := _, pos := _, after := _, guard := _ }) rfl 22 (.tmp 4) (.tmp 10) rfl bR 0 (B32 (bdig y)) (by rfl) (by rfl) (hK.at bR (B32 fun _ => 0) 22 (.head _)) (B32_le _ _) (B32_info _) (B32_one _) (by rfl) ?_
      | refine wpList_store_own (op := { dst := none, op := _, type := _, pos := _, after := _, guard := _ }) rfl 22 (.tmp 4) (.tmp 14) rfl bR 0 (B32 (bdig y)) (by rfl) (by rfl) (hK.at bR (B32 fun _ => 0) 22 (.head _)) (B32_le _ _) (B32_info _) (B32_one _) (by rfl) ?_)
    exact bodyPost_ret (results_own_tmp Tryz.results5 _ _ bR (B32 (bdig y)) _ (by rfl) (own_setCells (hK.at bR (B32 fun _ => 0) 22 (.head _)) (B32_sizes _ _)) Tryz.underlying22 rfl (B32_info _)) rfl ⟨rfl, Below.setCells _ _ _ _ le_bR.out hK.2⟩
set_option maxRecDepth 100000 in
set_option maxHeartbeats 400000 in
theorem spub_no {kind : Int} (h1 : kind ≠ 1) (h2 : kind ≠ 2) (n : Nat) (w : World) : Calls Tryz.prog 5 #[.int .i64 kind, .agg (B32 (bdig n))] w fun x w' => x = .returned (.tuple #[.agg (B32 fun _ => 0), .int .i64 1]) ∧ Below w.heap.size w w' := by
  have hz := (zero_of_info zeroB32).1
  have hd1 : decide (kind = 1) = false := decide_eq_false h1
  have hd2 : decide (kind = 2) = false := decide_eq_false h2
  · go_enter Tryz.func5, Tryz.ntmps5
    go_upto_region 1 with fail
    have hK := ((Kp.nil w).alloc (B32 (bdig n)) 22).alloc (B32 fun _ => 0) 22
    rw [World.size_alloc] at hK
    generalize (w.alloc (.cells (B32 (bdig n)) 22)).alloc (.cells (B32 fun _ => 0) 22) = W at *
    obtain ⟨bA, HbA⟩ : ∃ b, Hid (w.heap.size = b) := ⟨_, rfl⟩
    obtain ⟨bR, HbR⟩ : ∃ b, Hid (bA + 1 = b) := ⟨_, rfl⟩
    have le_bR : Hid (w.heap.size ≤ bR) := by show _ ≤ _; have := HbA.out; have := HbR.out; omega
    rw [HbA.out, HbR.out] at hK ⊢
    go_wp2_with (refine wpList_store_own (op := { dst := none, op := _, type := _, pos := _, after := _, guard := _ }) rfl 22 (.tmp 4) (.tmp 15) rfl bR 0 (B32 fun _ => 0) (by rfl) (by rfl) (hK.at bR (B32 fun _ => 0) 22 (.head _)) (B32_le _ _) (B32_info _) (B32_one _) (by rfl) ?_)
    exact bodyPost_ret (results_own_tmp Tryz.results5 _ _ bR (B32 fun _ => 0) _ (by rfl) (own_setCells (hK.at bR (B32 fun _ => 0) 22 (.head _)) (B32_sizes _ _)) Tryz.underlying22 rfl (B32_info _)) rfl ⟨rfl, Below.setCells _ _ _ _ le_bR.out hK.2⟩
set_option maxRecDepth 100000 in
set_option maxHeartbeats 400000 in
include F hJ in
theorem ssgn_is {kind : Int} (hk : kind = 1 ∨ kind = 2) (n : Nat) {ta : Option Addr} {tc : Nat} {m : List Int} (hl : m.length ≤ 1000) (w : World) (hT : T w) (hm : Txt w ta tc m) : Calls Tryz.prog 6 #[.int .i64 kind, .agg (B32 (bdig n)), .slice ta m.length tc] w fun x w' => x = .returned (.tuple #[.agg (B64 (bdig (two (sgR kind n m) (sgS kind n m)))), .int .i64 0]) ∧ Below w.heap.size w w' := by
  have hz := (zero_of_info zeroB32).1
  have hz64 := (zero_of_info zeroB64).1
  obtain ⟨y, Hy⟩ : ∃ y, Hid (two (sgR kind n m) (sgS kind n m) = y) := ⟨_, rfl⟩
  obtain ⟨q, Hq⟩ : ∃ q, Hid (opub n = q) := ⟨_, rfl⟩
  have hl := show Hid _ from hl
  have h1 : Hid (kind = 1 → ∀ w, T w → Txt w ta tc m → Calls Tryz.prog 16 #[.agg (B32 (bdig n)), .slice ta m.length tc] w fun x w' => x = .returned (.agg (B64 (bdig y))) ∧ Below w.heap.size w w') := fun e w hT hm => by
    subst e
    rw [← Hy.out, show sgR 1 n m = rOf n m from if_pos rfl, show sgS 1 n m = sOf n m from if_pos rfl]
    exact sign_is F n hl.out w hT hm
  have h2 : Hid (kind = 2 → ∀ w, T w → Txt w ta tc m → Calls Tryz.prog 17 #[.agg (B32 (bdig q)), .slice ta m.length tc] w fun x w' => x = .returned (.agg (B64 (bdig y))) ∧ Below w.heap.size w w') := fun e w hT hm => by
    subst e
    rw [← Hy.out, ← Hq.out, show sgR 2 n m = oR (opub n) m from if_neg (by decide), show sgS 2 n m = oS (opub n) m from if_neg (by decide)]
    exact osig_is hl.out w (hJ w hT) hm
  have h3 : Hid (∀ w, T w → Calls Tryz.prog 15 #[.agg (B32 (bdig n))] w fun x w' => x = .returned (.agg (B32 (bdig q))) ∧ Below w.heap.size w w') := fun w hT => by
    rw [← Hq.out]
    exact opublic_is n w (hJ w hT)
  rw [Hy.out]
  clear Hy Hq
  rcases hk with rfl | rfl
  all_goals
    go_enter Tryz.func6, Tryz.ntmps6
    go_upto_region 1 with fail
    have hK := ((Kp.nil w).alloc (B32 (bdig n)) 22).alloc (B64 fun _ => 0) 24
    rw [World.size_alloc] at hK
    generalize (w.alloc (.cells (B32 (bdig n)) 22)).alloc (.cells (B64 fun _ => 0) 24) = W at *
    obtain ⟨bA, HbA⟩ : ∃ b, Hid (w.heap.size = b) := ⟨_, rfl⟩
    obtain ⟨bR, HbR⟩ : ∃ b, Hid (bA + 1 = b) := ⟨_, rfl⟩
    have le_bR : Hid (w.heap.size ≤ bR) := by show _ ≤ _; have := HbA.out; have := HbR.out; omega
    rw [HbA.out, HbR.out] at hK ⊢
    go_wp2_with (refine wpList_load_own (by rfl) 22 (.tmp 4) (by rfl) bA (by rfl) (B32 (bdig n)) _ (hK.at bA (B32 (bdig n)) 22 (.tail _ (.head _))) Tryz.underlying22 (by rfl) (B32_info _) ?_)
  · refine (h1.out (by trivial) _ (F.keep _ _ hT hK.2) (hm.below hK.2)).mono ?_
    rintro e V5 ⟨rfl, bw⟩
    have hK := hK.below bw
    clear bw
    go_wp2_with (refine wpList_store_own (op := { dst := none, op := _, type := _, pos := _, after := _, guard := _ }) rfl 24 (.tmp 6) (.tmp 13) rfl bR 0 (B64 (bdig y)) (by rfl) (by rfl) (hK.at bR (B64 fun _ => 0) 24 (.head _)) (B64_le _ _) (B64_info _) (B64_one _) (by rfl) ?_)
    exact bodyPost_ret (results_own_tmp Tryz.results6 _ _ bR (B64 (bdig y)) _ (by rfl) (own_setCells (hK.at bR (B64 fun _ => 0) 24 (.head _)) (B64_sizes _ _)) Tryz.underlying24 rfl (B64_info _)) rfl ⟨rfl, Below.setCells _ _ _ _ le_bR.out hK.2⟩
  · refine (h3.out _ (F.keep _ _ hT hK.2)).mono ?_
    rintro e V5 ⟨rfl, bw⟩
    have hK := hK.below bw
    clear bw
    go_wp2_with fail
    refine (h2.out (by trivial) _ (F.keep _ _ hT hK.2) (hm.below hK.2)).mono ?_
    rintro e V6 ⟨rfl, bw⟩
    have hK := hK.below bw
    clear bw
    go_wp2_with (refine wpList_store_own (op := { dst := none, op := _, type := _, pos := _, after := _, guard := _ }) rfl 24 (.tmp 6) (.tmp 19) rfl bR 0 (B64 (bdig y)) (by rfl) (by rfl) (hK.at bR (B64 fun _ => 0) 24 (.head _)) (B64_le _ _) (B64_info _) (B64_one _) (by rfl) ?_)
    exact bodyPost_ret (results_own_tmp Tryz.results6 _ _ bR (B64 (bdig y)) _ (by rfl) (own_setCells (hK.at bR (B64 fun _ => 0) 24 (.head _)) (B64_sizes _ _)) Tryz.underlying24 rfl (B64_info _)) rfl ⟨rfl, Below.setCells _ _ _ _ le_bR.out hK.2⟩
set_option maxRecDepth 100000 in
set_option maxHeartbeats 400000 in
theorem ssgn_no {kind : Int} (h1 : kind ≠ 1) (h2 : kind ≠ 2) (n : Nat) {ta : Option Addr} {tc : Nat} {m : List Int} (w : World) : Calls Tryz.prog 6 #[.int .i64 kind, .agg (B32 (bdig n)), .slice ta m.length tc] w fun x w' => x = .returned (.tuple #[.agg (B64 fun _ => 0), .int .i64 1]) ∧ Below w.heap.size w w' := by
  have hz := (zero_of_info zeroB32).1
  have hz64 := (zero_of_info zeroB64).1
  have hd1 : decide (kind = 1) = false := decide_eq_false h1
  have hd2 : decide (kind = 2) = false := decide_eq_false h2
  · go_enter Tryz.func6, Tryz.ntmps6
    go_upto_region 1 with fail
    have hK := ((Kp.nil w).alloc (B32 (bdig n)) 22).alloc (B64 fun _ => 0) 24
    rw [World.size_alloc] at hK
    generalize (w.alloc (.cells (B32 (bdig n)) 22)).alloc (.cells (B64 fun _ => 0) 24) = W at *
    obtain ⟨bA, HbA⟩ : ∃ b, Hid (w.heap.size = b) := ⟨_, rfl⟩
    obtain ⟨bR, HbR⟩ : ∃ b, Hid (bA + 1 = b) := ⟨_, rfl⟩
    have le_bR : Hid (w.heap.size ≤ bR) := by show _ ≤ _; have := HbA.out; have := HbR.out; omega
    rw [HbA.out, HbR.out] at hK ⊢
    go_wp2_with (refine wpList_store_own (op := { dst := none, op := _, type := _, pos := _, after := _, guard := _ }) rfl 24 (.tmp 6) (.tmp 20) rfl bR 0 (B64 fun _ => 0) (by rfl) (by rfl) (hK.at bR (B64 fun _ => 0) 24 (.head _)) (B64_le _ _) (B64_info _) (B64_one _) (by rfl) ?_)
    exact bodyPost_ret (results_own_tmp Tryz.results6 _ _ bR (B64 fun _ => 0) _ (by rfl) (own_setCells (hK.at bR (B64 fun _ => 0) 24 (.head _)) (B64_sizes _ _)) Tryz.underlying24 rfl (B64_info _)) rfl ⟨rfl, Below.setCells _ _ _ _ le_bR.out hK.2⟩
set_option maxRecDepth 100000 in
set_option maxHeartbeats 400000 in
include F hJ in
theorem sver_is (kind : Int) {p R S : Nat} {ta : Option Addr} {tc : Nat} {m : List Int} (lp : p < R256) (lR : R < R256) (lS : S < R256) (hl : m.length ≤ 1000) (w : World) (hT : T w) (hm : Txt w ta tc m) : Calls Tryz.prog 7 #[.int .i64 kind, .agg (B32 (bdig p)), .slice ta m.length tc, .agg (B64 (bdig (two R S)))] w fun x w' => x = .returned (.bool (verK kind p m R S)) ∧ Below w.heap.size w w' := by
  have hz := (zero_of_info zeroB32).1
  have hz64 := (zero_of_info zeroB64).1
  obtain ⟨v, Hv⟩ : ∃ v, Hid (verK kind p m R S = v) := ⟨_, rfl⟩
  obtain ⟨z, Hz⟩ : ∃ z, Hid (two R S = z) := ⟨_, rfl⟩
  obtain ⟨y, Hy⟩ : ∃ y, Hid (two (oR p m) (oS p m) = y) := ⟨_, rfl⟩
  have lz : Hid (z < R512) := by show _ < _; rw [← Hz.out]; exact two_lt lR lS
  have ly : Hid (y < R512) := by show _ < _; rw [← Hy.out]; exact two_lt (oR_lt _ _) (oS_lt _ _)
  have hl := show Hid _ from hl
  have h1 : Hid (kind = 1 → ∀ w, T w → Txt w ta tc m → Calls Tryz.prog 18 #[.agg (B32 (bdig p)), .slice ta m.length tc, .agg (B64 (bdig z))] w fun x w' => x = .returned (.bool v) ∧ Below w.heap.size w w') := fun e w hT hm => by
    subst e
    rw [← Hv.out, ← Hz.out, show verK 1 p m R S = signedB p m R S from if_pos rfl]
    exact verify_is F lp lR lS hl.out w hT hm
  have h2 : Hid (∀ w, T w → Txt w ta tc m → Calls Tryz.prog 17 #[.agg (B32 (bdig p)), .slice ta m.length tc] w fun x w' => x = .returned (.agg (B64 (bdig y))) ∧ Below w.heap.size w w') := fun w hT hm => by
    rw [← Hy.out]
    exact osig_is hl.out w (hJ w hT) hm
  have h3 : Hid (kind = 2 → decide (z = y) = v) := fun e => by
    subst e
    rw [← Hv.out, ← Hz.out, ← Hy.out]
    unfold verK
    rw [if_neg (by decide), if_pos rfl]
  have h4 : Hid (kind ≠ 1 → kind ≠ 2 → v = false) := fun a b => by
    rw [← Hv.out]
    unfold verK
    rw [if_neg a, if_neg b]
  rw [Hv.out, Hz.out]
  clear Hv Hz Hy
  by_cases k1 : kind = 1
  · subst k1
    go_enter Tryz.func7, Tryz.ntmps7
    go_upto_region 1 with fail
    have hK := ((Kp.nil w).alloc (B32 (bdig p)) 22).alloc (B64 (bdig z)) 24
    rw [World.size_alloc] at hK
    generalize (w.alloc (.cells (B32 (bdig p)) 22)).alloc (.cells (B64 (bdig z)) 24) = W at *
    obtain ⟨bA, HbA⟩ : ∃ b, Hid (w.heap.size = b) := ⟨_, rfl⟩
    obtain ⟨bS, HbS⟩ : ∃ b, Hid (bA + 1 = b) := ⟨_, rfl⟩
    rw [HbA.out, HbS.out] at hK ⊢
    go_wp2_with (first
      | refine wpList_load_own (by rfl) 22 (.tmp 5) (by rfl) bA (by rfl) (B32 (bdig p)) _ (hK.at bA (B32 (bdig p)) 22 (.tail _ (.head _))) Tryz.underlying22 (by rfl) (B32_info _) ?_
      | refine wpList_load_own (by rfl) 24 (.tmp 7) (by rfl) bS (by rfl) (B64 (bdig z)) _ (hK.at bS (B64 (bdig z)) 24 (.head _)) Tryz.underlying24 (by rfl) (B64_info _) ?_)
    refine (h1.out (by trivial) _ (F.keep _ _ hT hK.2) (hm.below hK.2)).mono ?_
    rintro e V5 ⟨rfl, bw⟩
    have hK := hK.below bw
    clear bw
    go_wp2_with fail
    go_ret
    exact ⟨rfl, hK.2⟩
  by_cases k2 : kind = 2
  · subst k2
    have hv := h3.out rfl
    subst hv
    go_enter Tryz.func7, Tryz.ntmps7
    go_upto_region 1 with fail
    have hK := ((Kp.nil w).alloc (B32 (bdig p)) 22).alloc (B64 (bdig z)) 24
    rw [World.size_alloc] at hK
    generalize (w.alloc (.cells (B32 (bdig p)) 22)).alloc (.cells (B64 (bdig z)) 24) = W at *
    obtain ⟨bA, HbA⟩ : ∃ b, Hid (w.heap.size = b) := ⟨_, rfl⟩
    obtain ⟨bS, HbS⟩ : ∃ b, Hid (bA + 1 = b) := ⟨_, rfl⟩
    rw [HbA.out, HbS.out] at hK ⊢
    go_upto_region 6 with fail
    refine wp_region_lv 23 (fun _ => [(bS, B64 (bdig z), 24), (bA, B32 (bdig p), 22)]) [.v (.agg (B64 (bdig z))), .v (.agg (B32 (bdig p))), .v (.slice ta m.length tc), .v (.agg (B64 (bdig y))), .v (.bool (decide (z = y))), .v (.bool (decide (z = y)))] hK (by kernel_rfl) (by kernel_rfl) (by kernel_rfl) (by rfl) (.c (.ld bS (fun _ => .head _) Tryz.underlying24 rfl (B64_info _)) <| .c (.ld bA (fun _ => .tail _ (.head _)) Tryz.underlying22 rfl (B32_info _)) <| .c (.p1 2 (.slice ta m.length tc)) <| .c (.ca fun _ w hk => h2.out w (F.keep _ _ hT hk.2) (hm.below hk.2)) <| .c (.p2 18 (.agg (B64 (bdig z))) 21 (.agg (B64 (bdig y))) (h := by intro ac wc f f'; have he := B64_eq z y lz.out ly.out wc; have q := getq f; have q' := getq f'; go_simp)) <| .c (.p1 22 (.bool (decide (z = y)))) .nil) ?_
    intro vs V1 hJ1 hf
    have hK := hJ1.1
    simp only [putL, Lv.val, Act.put, List.setIfInBounds_toArray, List.set_cons_succ, List.set_cons_zero]
    go_wp2_with fail
    go_ret
    exact ⟨rfl, hK.2⟩
  · have hv := h4.out k1 k2
    subst hv
    have hd1 : decide (kind = 1) = false := decide_eq_false k1
    have hd2 : decide (kind = 2) = false := decide_eq_false k2
    go_enter Tryz.func7, Tryz.ntmps7
    go_upto_region 1 with fail
    have hK := ((Kp.nil w).alloc (B32 (bdig p)) 22).alloc (B64 (bdig z)) 24
    rw [World.size_alloc] at hK
    generalize (w.alloc (.cells (B32 (bdig p)) 22)).alloc (.cells (B64 (bdig z)) 24) = W at *
    obtain ⟨bA, HbA⟩ : ∃ b, Hid (w.heap.size = b) := ⟨_, rfl⟩
    obtain ⟨bS, HbS⟩ : ∃ b, Hid (bA + 1 = b) := ⟨_, rfl⟩
    rw [HbA.out, HbS.out] at hK ⊢
    go_wp2_with fail
    go_ret
    exact ⟨rfl, hK.2⟩
include F hJ in
theorem ste : Ste T where
  keep := F.keep
  pub := fun _ hk n w hT => spub_is F hJ hk n w hT
  pub_no := fun _ h1 h2 n w _ => spub_no h1 h2 n w
  sgn := fun _ hk n _ _ _ hl w hT hm => ssgn_is F hJ hk n hl w hT hm
  sgn_no := fun _ h1 h2 n _ _ _ _ w _ _ => ssgn_no h1 h2 n w
  ver := fun k _ _ _ _ _ _ lp lR lS hl w hT hm => sver_is F hJ k lp lR lS hl w hT hm
end
end Go.Proofs.YtgibllaifnnfkaaGreatDoor
namespace Go.Proofs.YtgibllaifnnfkaaGreatDoor
open Go Go.RowKit
def wkO : Nat := 48621849481454416174631783184890647894649880757312760562656147455512366318509
theorem wkO_is : opub 1 = wkO := by decide +kernel
theorem wkO_ne : oR wkO [116] ≠ oR wkO [117] := by decide +kernel
theorem wk_other : verK 2 (pubK 2 1) [117] (sgR 2 1 [116]) (sgS 2 1 [116]) = false := by
  unfold verK
  rw [if_neg (by decide), if_pos rfl, show pubK 2 1 = opub 1 from if_neg (by decide), show sgR 2 1 [116] = oR (opub 1) [116] from if_neg (by decide), show sgS 2 1 [116] = oS (opub 1) [116] from if_neg (by decide), wkO_is]
  refine decide_eq_false fun e => wkO_ne ?_
  have h := congrArg (· % R256) e
  simp only [two_lo (oR_lt _ _)] at h
  exact h
theorem wk_pubne : pubK 2 1 ≠ 0 := by
  rw [show pubK 2 1 = opub 1 from if_neg (by decide), wkO_is]
  decide
set_option maxRecDepth 100000 in
set_option maxHeartbeats 2000000 in
theorem swakes {T : World → Prop} (F : Ste T) (w : World) (hT : T w) : Calls Tryz.prog 11 #[] w fun x w' => x = .returned (.bool true) ∧ Below w.heap.size w w' := by
  have hz := (zero_of_info zeroB32).1
  have hz64 := (zero_of_info zeroB64).1
  have z0 : B32 (bdig 0) = B32 fun _ => 0 := B32_ext fun i _ => bdig_zero i
  obtain ⟨y, Hy⟩ : ∃ y, Hid (pubK 2 1 = y) := ⟨_, rfl⟩
  obtain ⟨a, Ha⟩ : ∃ a, Hid (sgR 2 1 [116] = a) := ⟨_, rfl⟩
  obtain ⟨b, Hb⟩ : ∃ b, Hid (sgS 2 1 [116] = b) := ⟨_, rfl⟩
  have ly : Hid (y < R256) := by show _ < _; rw [← Hy.out]; exact pubK_lt (.inr rfl) 1
  have la : Hid (a < R256) := by show _ < _; rw [← Ha.out]; exact sgR_lt (.inr rfl) 1 _
  have lb : Hid (b < R256) := by show _ < _; rw [← Hb.out]; exact sgS_lt (.inr rfl) 1 _
  have hy0 : Hid (decide (y = 0) = false) := by show _ = _; rw [← Hy.out]; exact decide_eq_false wk_pubne
  have hpub : Hid (∀ w, T w → Calls Tryz.prog 5 #[.int .i64 2, .agg (B32 (bdig 1))] w fun x w' => x = .returned (.tuple #[.agg (B32 (bdig y)), .int .i64 0]) ∧ Below w.heap.size w w') := fun w hT => by rw [← Hy.out]; exact F.pub 2 (.inr rfl) 1 w hT
  have hsg : Hid (∀ a' c w, T w → Txt w a' c [116] → Calls Tryz.prog 6 #[.int .i64 2, .agg (B32 (bdig 1)), .slice a' 1 c] w fun x w' => x = .returned (.tuple #[.agg (B64 (bdig (two a b))), .int .i64 0]) ∧ Below w.heap.size w w') := fun a' c w hT hm => by rw [← Ha.out, ← Hb.out]; exact F.sgn 2 (.inr rfl) 1 a' c [116] (by decide) w hT hm
  have hsn : Hid (∀ w, T w → Calls Tryz.prog 6 #[.int .i64 3, .agg (B32 fun _ => 0), .slice none 0 0] w fun x w' => x = .returned (.tuple #[.agg (B64 fun _ => 0), .int .i64 1]) ∧ Below w.heap.size w w') := fun w hT => by have h := F.sgn_no 3 (by decide) (by decide) 0 none 0 [] (by decide) w hT (txt_nil w); rw [z0] at h; exact h
  have hv1 : Hid (∀ a' c w, T w → Txt w a' c [116] → Calls Tryz.prog 7 #[.int .i64 2, .agg (B32 (bdig y)), .slice a' 1 c, .agg (B64 (bdig (two a b)))] w fun x w' => x = .returned (.bool true) ∧ Below w.heap.size w w') := fun a' c w hT hm => by have h := F.ver 2 y a b a' c [116] ly.out la.out lb.out (by decide) w hT hm; rw [← Hy.out, ← Ha.out, ← Hb.out] at h ⊢; rw [verK_own (.inr rfl)] at h; exact h
  have hv2 : Hid (∀ a' c w, T w → Txt w a' c [117] → Calls Tryz.prog 7 #[.int .i64 2, .agg (B32 (bdig y)), .slice a' 1 c, .agg (B64 (bdig (two a b)))] w fun x w' => x = .returned (.bool false) ∧ Below w.heap.size w w') := fun a' c w hT hm => by have h := F.ver 2 y a b a' c [117] ly.out la.out lb.out (by decide) w hT hm; rw [← Hy.out, ← Ha.out, ← Hb.out] at h ⊢; rw [wk_other] at h; exact h
  clear Hy Ha Hb
  go_enter Tryz.func11, Tryz.ntmps11
  have hK := Kp.nil w
  go_upto_region 1 with fail
  refine wp_region_ls 54 (fun _ => []) [.v (.agg (B32 (bdig 1))), .v (.tuple #[.agg (B32 (bdig y)), .int .i64 0]), .v (.tuple #[.agg (B32 (bdig y)), .int .i64 0]), .v (.agg (B32 (bdig y))), .v (.int .i64 0), .mk (B32 fun _ => 0) (B32 (bdig y)) 22 6, .o, .v (.int .i64 0)] hK (by kernel_rfl) (by kernel_rfl) (by rfl) (.c .p0 <| .c (.ca fun _ w hk => hpub.out w (F.keep _ _ hT hk.2)) <| .c (.p1 9 (.tuple #[.agg (B32 (bdig y)), .int .i64 0])) <| .c (.p1 7 (.tuple #[.agg (B32 (bdig y)), .int .i64 0])) <| .c (.p1 7 (.tuple #[.agg (B32 (bdig y)), .int .i64 0])) <| .c (.al hz) <| .c (.st 5 (B32_info _) (B32_one _)) <| .c (.p1 11 (.int .i64 0)) .nil) ?_
  intro vs V1 hJ hf
  obtain ⟨g2, eg2⟩ := hf 5 _ _ rfl rfl
  obtain ⟨le_g2, ap_g2, o_g2⟩ := hJ.got 5 eg2
  have hK : Kp [(g2, B32 (bdig y), 22)] w V1 := (hJ.1.cons o_g2)
  simp only [putL, Lv.val, Nat.zero_add, Nat.reduceAdd, eg2, Act.put, List.setIfInBounds_toArray, List.set_cons_succ, List.set_cons_zero]
  clear hJ hf eg2 o_g2
  clear vs
  go_upto_region 2 with fail
  refine wp_region_ls 54 (fun _ => [(g2, B32 (bdig y), 22)]) [.v (.agg (B32 (bdig 1))), .bs [.inr (.int .u8 116)] 5, .al 1, .v (.tuple #[.agg (B64 (bdig (two a b))), .int .i64 0]), .v (.tuple #[.agg (B64 (bdig (two a b))), .int .i64 0]), .v (.agg (B64 (bdig (two a b)))), .v (.int .i64 0), .mk (B64 fun _ => 0) (B64 (bdig (two a b))) 24 8, .o, .v (.int .i64 0)] hK (by kernel_rfl) (by kernel_rfl) (by rfl) (.c .p0 <| .c (.bl Tryz.underlying23 infoE5) <| .c (.cm 1 Tryz.underlying23 Tryz.underlying5) <| .c (.cj (fun vs => #[.int .i64 2, .agg (B32 (bdig 1)), vs 2]) fun _ vs w hA => by obtain ⟨h1, e2⟩ := hA.same 2; obtain ⟨-, g, e1, ho⟩ := hA.j.bs 1 _ _ rfl h1; rw [e2, e1]; exact hsg.out _ _ w (F.keep _ _ hT hA.j.kp.2) (txt_byte ho (by decide))) <| .c (.p1 16 (.tuple #[.agg (B64 (bdig (two a b))), .int .i64 0])) <| .c (.p1 12 (.tuple #[.agg (B64 (bdig (two a b))), .int .i64 0])) <| .c (.p1 12 (.tuple #[.agg (B64 (bdig (two a b))), .int .i64 0])) <| .c (.al hz64) <| .c (.st 7 (B64_info _) (B64_one _)) <| .c (.p1 18 (.int .i64 0)) .nil) ?_
  intro vs V3 hJ hf
  obtain ⟨g4, eg4⟩ := hf 7 _ _ rfl rfl
  obtain ⟨le_g4, ap_g4, o_g4⟩ := hJ.got 7 eg4
  have hK : Kp [(g4, B64 (bdig (two a b)), 24), (g2, B32 (bdig y), 22)] w V3 := (hJ.1.cons o_g4)
  simp only [putL, Lv.val, Nat.zero_add, Nat.reduceAdd, eg4, Act.put, List.setIfInBounds_toArray, List.set_cons_succ, List.set_cons_zero]
  clear hJ hf eg4 o_g4
  generalize vs 1 = qV3_1, vs 2 = qV3_2
  clear vs
  go_upto_region 3 with fail
  refine wp_region_ls 54 (fun _ => [(g4, B64 (bdig (two a b)), 24), (g2, B32 (bdig y), 22)]) [.v (.agg (B32 fun _ => 0)), .v (.tuple #[.agg (B64 fun _ => 0), .int .i64 1]), .v (.tuple #[.agg (B64 fun _ => 0), .int .i64 1]), .v (.agg (B64 fun _ => 0)), .v (.int .i64 1), .mk (B64 fun _ => 0) (B64 fun _ => 0) 24 6, .o, .v (.int .i64 1)] hK (by kernel_rfl) (by kernel_rfl) (by rfl) (.c .p0 <| .c (.ca fun _ w hk => hsn.out w (F.keep _ _ hT hk.2)) <| .c (.p1 21 (.tuple #[.agg (B64 fun _ => 0), .int .i64 1])) <| .c (.p1 19 (.tuple #[.agg (B64 fun _ => 0), .int .i64 1])) <| .c (.p1 19 (.tuple #[.agg (B64 fun _ => 0), .int .i64 1])) <| .c (.al hz64) <| .c (.st 5 (B64_info _) (B64_one _)) <| .c (.p1 23 (.int .i64 1)) .nil) ?_
  intro vs V5 hJ hf
  obtain ⟨g6, eg6⟩ := hf 5 _ _ rfl rfl
  obtain ⟨le_g6, ap_g6, o_g6⟩ := hJ.got 5 eg6
  have hK : Kp [(g6, B64 fun _ => 0, 24), (g4, B64 (bdig (two a b)), 24), (g2, B32 (bdig y), 22)] w V5 := (hJ.1.cons o_g6)
  simp only [putL, Lv.val, Nat.zero_add, Nat.reduceAdd, eg6, Act.put, List.setIfInBounds_toArray, List.set_cons_succ, List.set_cons_zero]
  clear hJ hf eg6 o_g6
  clear vs
  go_upto_region 4 with fail
  refine wp_region_ls 54 (fun _ => [(g6, B64 fun _ => 0, 24), (g4, B64 (bdig (two a b)), 24), (g2, B32 (bdig y), 22)]) [.v (.int .i64 0), .v (.bool true), .v (.bool true), .v (.int .i64 0), .v (.bool true), .v (.bool true), .v (.bool true), .v (.int .i64 1), .v (.bool true), .v (.bool true), .v (.bool true), .v (.agg (B32 (bdig y))), .v (.agg (B32 fun _ => 0)), .v (.bool true), .v (.bool true), .v (.bool true), .v (.agg (B32 (bdig y))), .bs [.inr (.int .u8 116)] 5, .al 17, .v (.agg (B64 (bdig (two a b)))), .v (.bool true), .v (.bool true), .v (.bool true), .v (.agg (B32 (bdig y))), .bs [.inr (.int .u8 117)] 5, .al 24, .v (.agg (B64 (bdig (two a b)))), .v (.bool false), .v (.bool true), .v (.bool true), .v (.bool true)] hK (by kernel_rfl) (by kernel_rfl) (by rfl) (.c (.p1 2 (.int .i64 0)) <| .c (.p1 24 (.int .i64 0)) <| .c (.p1 25 (.bool true)) <| .c (.p1 4 (.int .i64 0)) <| .c (.p1 27 (.int .i64 0)) <| .c (.p2 26 (.bool true) 28 (.bool true)) <| .c (.p1 29 (.bool true)) <| .c (.p1 6 (.int .i64 1)) <| .c (.p1 31 (.int .i64 1)) <| .c (.p2 30 (.bool true) 32 (.bool true)) <| .c (.p1 33 (.bool true)) <| .c (.ld g2 (fun _ => (.tail _ (.tail _ (.head _)))) Tryz.underlying22 rfl (B32_info _)) <| .c .p0 <| .c (.p2 35 (.agg (B32 (bdig y))) 36 (.agg (B32 fun _ => 0)) (h := by intro ac wc f f'; have he := B32_eq y 0 ly.out (by decide) wc; rw [hy0.out, z0] at he; go_simp)) <| .c (.p2 34 (.bool true) 37 (.bool true)) <| .c (.p1 38 (.bool true)) <| .c (.ld g2 (fun _ => (.tail _ (.tail _ (.head _)))) Tryz.underlying22 rfl (B32_info _)) <| .c (.bl Tryz.underlying23 infoE5) <| .c (.cm 17 Tryz.underlying23 Tryz.underlying5) <| .c (.ld g4 (fun _ => (.tail _ (.head _))) Tryz.underlying24 rfl (B64_info _)) <| .c (.cj (fun vs => #[.int .i64 2, .agg (B32 (bdig y)), vs 18, .agg (B64 (bdig (two a b)))]) fun _ vs w hA => by obtain ⟨h1, e2⟩ := hA.same 18; obtain ⟨-, g, e1, ho⟩ := hA.j.bs 17 _ _ rfl h1; rw [e2, e1]; exact hv1.out _ _ w (F.keep _ _ hT hA.j.kp.2) (txt_byte ho (by decide))) <| .c (.p2 39 (.bool true) 44 (.bool true)) <| .c (.p1 45 (.bool true)) <| .c (.ld g2 (fun _ => (.tail _ (.tail _ (.head _)))) Tryz.underlying22 rfl (B32_info _)) <| .c (.bl Tryz.underlying23 infoE5) <| .c (.cm 24 Tryz.underlying23 Tryz.underlying5) <| .c (.ld g4 (fun _ => (.tail _ (.head _))) Tryz.underlying24 rfl (B64_info _)) <| .c (.cj (fun vs => #[.int .i64 2, .agg (B32 (bdig y)), vs 25, .agg (B64 (bdig (two a b)))]) fun _ vs w hA => by obtain ⟨h1, e2⟩ := hA.same 25; obtain ⟨-, g, e1, ho⟩ := hA.j.bs 24 _ _ rfl h1; rw [e2, e1]; exact hv2.out _ _ w (F.keep _ _ hT hA.j.kp.2) (txt_byte ho (by decide))) <| .c (.p1 51 (.bool false)) <| .c (.p2 46 (.bool true) 52 (.bool true)) <| .c (.p1 53 (.bool true)) .nil) ?_
  intro vs V7 hJ hf
  have hK : Kp [(g6, B64 fun _ => 0, 24), (g4, B64 (bdig (two a b)), 24), (g2, B32 (bdig y), 22)] w V7 := hJ.1
  clear hJ hf
  simp only [putL, Lv.val, Nat.zero_add, Nat.reduceAdd, Act.put, List.setIfInBounds_toArray, List.set_cons_succ, List.set_cons_zero]
  generalize vs 17 = qV7_17, vs 18 = qV7_18, vs 24 = qV7_24, vs 25 = qV7_25
  clear vs
  go_wp2
  go_ret
  exact ⟨rfl, hK.2⟩
end Go.Proofs.YtgibllaifnnfkaaGreatDoor
