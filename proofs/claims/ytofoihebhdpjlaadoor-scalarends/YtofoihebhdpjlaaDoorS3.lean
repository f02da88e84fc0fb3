/- What the laws of the scalars lean on: all the program's functions by their contracts. -/
import Derived.Test.YtofoihebhdpjlaaDoorS2
import Derived.Test.YtofoihebhdpjlaaDoorS3T
import Derived.Test.YtofoihebhdpjlaaDoorSB
namespace Go.Proofs.YtofoihebhdpjlaaDoor
open Go.RowKit
/-- The program's four functions, by what they answer; T: what they want of memory. -/
structure Scl (T : World → Prop) : Prop extends SclT T where
  wide : ∀ a, a < R512 → ∀ w, T w → Calls Tryd.prog 13 #[.agg (B64 (bdig a))] w fun x w' => x = .returned (.agg (B32 (bdig (a % LL)))) ∧ Below w.heap.size w w'
theorem Scl.modA {T : World → Prop} (F : Scl T) {a c : Nat} (ha : a < R256) (hc : a % LL = c) (w : World) (hT : T w) : Calls Tryd.prog 11 #[.agg (B32 (bdig a))] w fun x w' => x = .returned (.agg (B32 (bdig c))) ∧ Below w.heap.size w w' := by
  exact F.toSclT.modA ha hc w hT
theorem Scl.wideA {T : World → Prop} (F : Scl T) {a c : Nat} (ha : a < R512) (hc : a % LL = c) (w : World) (hT : T w) : Calls Tryd.prog 13 #[.agg (B64 (bdig a))] w fun x w' => x = .returned (.agg (B32 (bdig c))) ∧ Below w.heap.size w w' := by
  rw [← hc]; exact F.wide a ha w hT
theorem Scl.muladdA {T : World → Prop} (F : Scl T) {a b c d : Nat} (ha : a < R256) (hb : b < R256) (hc : c < R256) (hd : (a * b + c) % LL = d) (w : World) (hT : T w) : Calls Tryd.prog 14 #[.agg (B32 (bdig a)), .agg (B32 (bdig b)), .agg (B32 (bdig c))] w fun x w' => x = .returned (.agg (B32 (bdig d))) ∧ Below w.heap.size w w' := by
  exact F.toSclT.muladdA ha hb hc hd w hT
theorem pmuladd_at {a b c d : Nat} (ha : a < R256) (hb : b < R256) (hc : c < R256) (hd : (a * b + c) % LL = d) (w : World) : Calls Tryd.prog 15 #[.agg (B32 (bdig a)), .agg (B32 (bdig b)), .agg (B32 (bdig c))] w fun x w' => x = .returned (.agg (B32 (bdig d))) ∧ Below w.heap.size w w' := by
  rw [← hd]; exact muladd_any a b c ha hb hc w
/-- What is left of an own array's bytes, all of them. -/
theorem pmodL32 {a c bS cap : Nat} {w : World} {t : TypeId} (ho : Own w bS (B32 (bdig a)) t) (ha : a < R256) (hc : a % LL = c) : Calls Tryd.prog 12 #[.slice (some ⟨bS, 0, none⟩) 32 cap] w fun x w' => x = .returned (.agg (B32 (bdig c))) ∧ Below w.heap.size w w' := by
  have h := modLs_any (bdig a) 32 bS cap (by decide) (fun i _ => bdig_lt a i) w ho.lt (fun i hi => ho.cell (B32_at _ i hi))
  rw [vb_num a ha, hc] at h
  exact h
theorem pmodL64 {a c bS cap : Nat} {w : World} {t : TypeId} (ho : Own w bS (B64 (bdig a)) t) (ha : a < R512) (hc : a % LL = c) : Calls Tryd.prog 12 #[.slice (some ⟨bS, 0, none⟩) 64 cap] w fun x w' => x = .returned (.agg (B32 (bdig c))) ∧ Below w.heap.size w w' := by
  have h := modLs_any (bdig a) 64 bS cap (by decide) (fun i _ => bdig_lt a i) w ho.lt (fun i hi => ho.cell (B64_at _ i hi))
  rw [vb64 ha, hc] at h
  exact h
end Go.Proofs.YtofoihebhdpjlaaDoor
