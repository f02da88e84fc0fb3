/- What the laws of the scalars lean on: the program's functions by their contracts; the laws' own helpers. -/
import Derived.Test.YtofoihebhdpjlaaDoorS1L
import Derived.Test.YtofoihebhdpjlaaDoorE14N
namespace Go.Proofs.YtofoihebhdpjlaaDoor
open Go.RowKit
/-- The program's three functions of numbers of 32 bytes, by what they answer; T: what they want of memory. -/
structure SclT (T : World → Prop) : Prop where
  keep : ∀ w w', T w → Below w.heap.size w w' → T w'
  check : ∀ a, a < R256 → ∀ w, T w → Calls Tryd.prog 9 #[.agg (B32 (bdig a))] w fun x w' => x = .returned (.bool (decide (a < LL))) ∧ Below w.heap.size w w'
  mod : ∀ a, a < R256 → ∀ w, T w → Calls Tryd.prog 11 #[.agg (B32 (bdig a))] w fun x w' => x = .returned (.agg (B32 (bdig (a % LL)))) ∧ Below w.heap.size w w'
  muladd : ∀ a b c, a < R256 → b < R256 → c < R256 → ∀ w, T w → Calls Tryd.prog 14 #[.agg (B32 (bdig a)), .agg (B32 (bdig b)), .agg (B32 (bdig c))] w fun x w' => x = .returned (.agg (B32 (bdig ((a * b + c) % LL)))) ∧ Below w.heap.size w w'
theorem SclT.modA {T : World → Prop} (F : SclT T) {a c : Nat} (ha : a < R256) (hc : a % LL = c) (w : World) (hT : T w) : Calls Tryd.prog 11 #[.agg (B32 (bdig a))] w fun x w' => x = .returned (.agg (B32 (bdig c))) ∧ Below w.heap.size w w' := by
  rw [← hc]; exact F.mod a ha w hT
theorem SclT.muladdA {T : World → Prop} (F : SclT T) {a b c d : Nat} (ha : a < R256) (hb : b < R256) (hc : c < R256) (hd : (a * b + c) % LL = d) (w : World) (hT : T w) : Calls Tryd.prog 14 #[.agg (B32 (bdig a)), .agg (B32 (bdig b)), .agg (B32 (bdig c))] w fun x w' => x = .returned (.agg (B32 (bdig d))) ∧ Below w.heap.size w w' := by
  rw [← hd]; exact F.muladd a b c ha hb hc w hT
set_option maxRecDepth 100000 in
set_option maxHeartbeats 4000000 in
theorem swakes_any {T : World → Prop} (F : SclT T) (w : World) (hT : T w) : Calls Tryd.prog 16 #[] w fun x w' => x = .returned (.bool true) ∧ Below w.heap.size w w' := by
  have h10 := B32_same 10 (by decide)
  have h0 := B32_same 0 (by decide)
  obtain ⟨l, Hl⟩ : ∃ l, Hid (LL = l) := ⟨_, rfl⟩
  have hl : l < R256 := by rw [← Hl.out]; exact LL_lt
  have Hl0 : Hid (l % LL = 0) := by show _ = _; rw [← Hl.out]; exact Nat.mod_self _
  go_enter Tryd.func16, Tryd.ntmps16
  go_wp2_with fail
  refine (num_any 2 (by decide) w).mono ?_
  rintro r w0 ⟨rfl, b0⟩
  have bw := b0
  go_wp2_with fail
  refine (num_any 3 (by decide) w0).mono ?_
  rintro r w1 ⟨rfl, b1⟩
  have bw := bel bw b1
  go_wp2_with fail
  refine (num_any 4 (by decide) w1).mono ?_
  rintro r w2 ⟨rfl, b2⟩
  have bw := bel bw b2
  go_wp2_with fail
  refine (F.muladdA (by decide) (by decide) (by decide) (show (2 * 3 + 4) % LL = 10 by decide) w2 (F.keep _ _ hT bw)).mono ?_
  rintro r w3 ⟨rfl, b3⟩
  have bw := bel bw b3
  go_wp2_with fail
  refine (num_any 10 (by decide) w3).mono ?_
  rintro r w4 ⟨rfl, b4⟩
  have bw := bel bw b4
  go_wp2_with fail
  refine (num_any 7 (by decide) w4).mono ?_
  rintro r w5 ⟨rfl, b5⟩
  have bw := bel bw b5
  go_wp2_with fail
  refine (F.check 7 (by decide) w5 (F.keep _ _ hT bw)).mono ?_
  rintro r w6 ⟨rfl, b6⟩
  have bw := bel bw b6
  rw [decide_eq_true (show 7 < LL by decide)]
  go_wp2_with fail
  refine (L_any w6).mono ?_
  rintro r w7 ⟨rfl, b7⟩
  have bw := bel bw b7
  rw [Hl.out]
  go_wp2_with fail
  refine (bytesOf_any l w7).mono ?_
  rintro r w8 ⟨rfl, b8⟩
  have bw := bel bw b8
  go_wp2_with fail
  refine (F.modA hl Hl0.out w8 (F.keep _ _ hT bw)).mono ?_
  rintro r w9 ⟨rfl, b9⟩
  have bw := bel bw b9
  go_wp2_with fail
  refine (num_any 0 (by decide) w9).mono ?_
  rintro r w10 ⟨rfl, b10⟩
  have bw := bel bw b10
  go_wp2
  go_ret
  exact ⟨rfl, bw⟩
end Go.Proofs.YtofoihebhdpjlaaDoor
