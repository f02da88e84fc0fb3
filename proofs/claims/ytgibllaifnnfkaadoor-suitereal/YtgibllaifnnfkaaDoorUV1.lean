/- The program's sum of a byte, a key and a text. -/
import Derived.Test.YtgibllaifnnfkaaDoorUH
import Derived.Test.YtgibllaifnnfkaaDoorJW7
namespace Go.Proofs.YtgibllaifnnfkaaDoor
open Go Go.RowKit
theorem slice_old {w w' : World} {g : Nat} {a : Option Addr} {c : Nat} {m : List Int} (h : Txt w a c m) (hB : Below w.heap.size w w') (hg : w.heap.size ≤ g) : J.SliceOf w' g (.slice a m.length c) m := J.BytesV.slice (show J.BytesV w a m.length c m from h.1) hB hg
theorem slice_at {w : World} {g b o c : Nat} {m : List Int} (h : Txt w (some ⟨b, o, none⟩) c m) (hb : b ≠ g) : J.SliceOf w g (.slice (some ⟨b, o, none⟩) m.length c) m := by
  obtain ⟨⟨h1, h2, h3, h4, h5⟩, -⟩ := h
  refine ⟨_, m.length, c, rfl, rfl, h2, h3, h4, fun hp => ?_⟩
  obtain ⟨b', off, e, hr⟩ := h5 hp
  simp only [Option.some.injEq, Addr.mk.injEq] at e
  obtain ⟨rfl, rfl, -⟩ := e
  exact ⟨b, o, rfl, hb, hr⟩
theorem kp_grown {l : List (Nat × Array Value × TypeId)} {w0 w w' : World} {g : Nat} (h : Kp l w0 w) (hg : w.grownBy w' (some g)) (hb : w0.heap.size ≤ g) (hl : ∀ p ∈ l, p.1 ≠ g) : Kp l w0 w' :=
  ⟨fun p hp => by
    have h1 := h.1 p hp
    unfold Own
    rw [hg.block _ h1.lt (fun e => hl p hp (Option.some.inj e))]
    exact h1, J.below_grown h.2 hg h.2.size hb⟩
set_option maxRecDepth 100000 in
set_option maxHeartbeats 1000000 in
theorem osum_is {x : Int} (hx : 0 ≤ x ∧ x < 256) {p : Nat} {ta : Option Addr} {tc : Nat} {m : List Int} (hl : m.length ≤ 1000) (w : World) (hT : J.Tabs w) (hm : Txt w ta tc m) :
    Calls Tryd.prog 27 #[.int .u8 x, .agg (B32 (bdig p)), .slice ta m.length tc] w fun e w' => e = .returned (.agg (B32 (bdig (hn (x :: (by32 p ++ m)))))) ∧ Below w.heap.size w w' := by
  have hz := (zero_of_info zeroB32).1
  obtain ⟨y, Hy⟩ : ∃ y, Hid (hn (x :: (by32 p ++ m)) = y) := ⟨_, rfl⟩
  have hl := show Hid _ from hl
  have hx := show Hid _ from hx
  go_enter Tryd.func27, Tryd.ntmps27
  go_upto_region 1 with fail
  have hK := ((Kp.nil w).alloc (B32 (bdig p)) 22).alloc (B32 fun _ => 0) 22
  rw [World.size_alloc] at hK
  generalize (w.alloc (.cells (B32 (bdig p)) 22)).alloc (.cells (B32 fun _ => 0) 22) = W at *
  obtain ⟨bA, HbA⟩ : ∃ b, Hid (w.heap.size = b) := ⟨_, rfl⟩
  obtain ⟨bR, HbR⟩ : ∃ b, Hid (bA + 1 = b) := ⟨_, rfl⟩
  rw [HbA.out, HbR.out] at hK ⊢
  have hTx := hT.below hK.2
  have lt_bA := (hK.at bA (B32 (bdig p)) 22 (.tail _ (.head _))).lt
  have lt_bR := (hK.at bR (B32 fun _ => 0) 22 (.head _)).lt
  have hgt : 2 < W.heap.size ∧ 5 < W.heap.size := ⟨hTx.2.1, hTx.1.1⟩
  have hbs := show Hid _ from hK.2.size
  go_wp2_with fail
  refine (J.new_any W).mono ?_
  rintro e W1 ⟨rfl, hS, bw, hlt⟩
  have hK := hK.below bw
  have hTx := hTx.below bw
  obtain ⟨s, Hs⟩ : ∃ s, Hid (W.heap.size = s) := ⟨_, rfl⟩
  have hbs : Hid (w.heap.size ≤ s) := by show _ ≤ _; rw [← Hs.out]; exact hbs.out
  have hne : Hid (bA < s ∧ bR < s) := by show _ ∧ _; rw [← Hs.out]; exact ⟨lt_bA, lt_bR⟩
  have hgt : Hid (2 < s ∧ 5 < s) := by show _ ∧ _; rw [← Hs.out]; exact hgt
  rw [Hs.out] at hS hlt ⊢
  clear bw lt_bA lt_bR
  go_upto_region 2 with fail
  go_wp2_with fail
  have hS := hS.below (alloc_below W1 (.cells #[.int .u8 x] 5)) hlt
  have hsl := slice_at (g := s) (txt_byte (own_new W1 #[.int .u8 x] 5).rowAt hx.out) (by omega)
  have hK := hK.below (alloc_below W1 (.cells #[.int .u8 x] 5))
  have hTx := hTx.below (alloc_below W1 (.cells #[.int .u8 x] 5))
  refine (J.write_any s [] [x] _ _ _ _ hS hsl hTx hgt.out (by simp)).mono ?_
  rintro e W2 ⟨rfl, hS, hg⟩
  have hnl : ∀ p' ∈ [(bR, B32 fun _ => 0, 22), (bA, B32 (bdig p), 22)], p'.1 ≠ s := by
    have := hne.out
    intro p' hp'
    simp only [List.mem_cons, List.not_mem_nil, or_false] at hp'
    rcases hp' with rfl | rfl
    · exact Nat.ne_of_lt this.2
    · exact Nat.ne_of_lt this.1
  have hnl := show Hid _ from hnl
  have hK := kp_grown hK hg hbs.out hnl.out
  have hTx := hTx.grown hg hgt.out
  clear hg hsl hlt
  rw [List.nil_append] at hS
  go_upto_region 3 with fail
  go_wp2_with fail
  have hsl := slice_at (g := s) (show Txt W2 (some ⟨bA, 0, none⟩) 32 (by32 p) from ⟨by rw [by32_length]; exact bytes_own (hK.at bA (B32 (bdig p)) 22 (.tail _ (.head _))), fun e => by cases e⟩) (Nat.ne_of_lt hne.out.1)
  rw [by32_length] at hsl
  refine (J.write_any s [x] (by32 p) _ _ _ _ hS hsl hTx hgt.out (by rw [by32_length]; simp)).mono ?_
  rintro e W3 ⟨rfl, hS, hg⟩
  have hK := kp_grown hK hg hbs.out hnl.out
  have hTx := hTx.grown hg hgt.out
  clear hg hsl
  go_upto_region 4 with fail
  go_wp2_with fail
  refine (J.write_any s ([x] ++ by32 p) m _ _ _ _ hS (slice_old hm hK.2 hbs.out) hTx hgt.out (by have := hl.out; rw [List.length_append, by32_length]; simp; omega)).mono ?_
  rintro e W4 ⟨rfl, hS, hg⟩
  have hK := kp_grown hK hg hbs.out hnl.out
  have hTx := hTx.grown hg hgt.out
  clear hg
  go_upto_region 5 with fail
  go_wp2_with fail
  refine (J.sumM_any s _ _ hS hTx (by have := hl.out; rw [List.length_append, List.length_append, by32_length]; simp; omega)).mono ?_
  rintro e W5 ⟨rfl, bw⟩
  have hK := hK.below bw
  have e5 : (J.u8s (J.digest ([x] ++ by32 p ++ m))).toArray = B32 (bdig y) := by rw [← Hy.out, ← dig_hn]; rfl
  rw [e5]
  clear e5 bw
  go_wp2_with (refine wpList_store_own (op := { dst := none, op := _, type := _, pos := _, after := _, guard := _ }) rfl 22 (.tmp 6) (.tmp 20) rfl bR 0 (B32 (bdig y)) (by rfl) (by rfl) (hK.at bR (B32 fun _ => 0) 22 (.head _)) (B32_le _ _) (B32_info _) (B32_one _) (by rfl) ?_)
  refine bodyPost_ret (results_own Tryd.results27 _ _ bR (B32 (bdig y)) _ (by rfl) (own_setCells (hK.at bR (B32 fun _ => 0) 22 (.head _)) (B32_sizes _ _)) Tryd.underlying22 rfl (B32_info _)) rfl ⟨by rw [Hy.out], Below.setCells _ _ _ _ ?_ hK.2⟩
  have := HbA.out
  have := HbR.out
  omega
end Go.Proofs.YtgibllaifnnfkaaDoor
