/- Which of two texts is ahead; texts as strings; small sums. -/
import Derived.Test.YtaabcllghniaoaaDoorCO
import Derived.Test.YtaabcllghniaoaaDoorBA
import Derived.Laws.IdiomStrings
namespace Go.Proofs.YtaabcllghniaoaaDoor
open Go Go.RowKit
theorem left_of (x : Int) (n : Nat) (h0 : 0 < n) (hn : n ≤ 1000000) : ∃ r : Nat, wrap64 ((IntKind.u64.wrap x).tmod (n : Int)) = (r : Int) ∧ r < n := by
  have h0' : 0 ≤ IntKind.u64.wrap x := wrap_u64_nonneg x
  rw [Int.tmod_eq_emod_of_nonneg h0']
  have h1 := Int.emod_nonneg (IntKind.u64.wrap x) (show (n : Int) ≠ 0 by omega)
  have h2 := Int.emod_lt_of_pos (IntKind.u64.wrap x) (show 0 < (n : Int) by omega)
  refine ⟨(IntKind.u64.wrap x % (n : Int)).toNat, ?_, by omega⟩
  rw [Int.toNat_of_nonneg h1]
  generalize IntKind.u64.wrap x % (n : Int) = y at *
  unfold wrap64
  omega
theorem byte_cast (M i : Nat) : ((M / 256 ^ i % 256 : Nat) : Int) = (M : Int) / 2 ^ (8 * i) % 256 := by
  have e : (256 : Nat) ^ i = 2 ^ (8 * i) := by rw [Nat.pow_mul]
  rw [e, Int.natCast_emod, Int.natCast_ediv, Int.natCast_pow]
  rfl
theorem getD_mem' {m : List Int} {i : Nat} (h : i < m.length) : m.getD i 0 ∈ m := by
  have e : m.getD i 0 = m[i] := by simp [List.getD, h]
  rw [e]
  exact List.getElem_mem h
theorem and_max (x : Int) : ∃ n : Nat, bits .and .i64 x 9223372036854775807 = (n : Int) ∧ n < 9223372036854775808 := by
  have h127 : (BitVec.ofInt 64 9223372036854775807).toNat = 2 ^ 63 - 1 := by decide
  have key : (BitVec.ofInt 64 x &&& BitVec.ofInt 64 9223372036854775807).toNat = (x % ((2 ^ 64 : Nat) : Int)).toNat % 2 ^ 63 := by
    rw [BitVec.toNat_and, BitVec.toNat_ofInt, h127, Nat.and_two_pow_sub_one_eq_mod]
  refine ⟨(x % ((2 ^ 64 : Nat) : Int)).toNat % 2 ^ 63, ?_, by omega⟩
  show IntKind.i64.wrap ((BitVec.ofInt 64 x &&& BitVec.ofInt 64 9223372036854775807).toNat : Nat) = _
  rw [key, IntKind.wrap_i64]
  omega
/-- A text's bytes, as a string holds them. -/
def bytesOf (m : List Int) : List UInt8 := m.map fun x => UInt8.ofNat x.toNat
def strOf (m : List Int) : ByteArray := ⟨(bytesOf m).toArray⟩
theorem strOf_list (m : List Int) : (strOf m).toList = bytesOf m := by
  rw [ByteArray.toList_eq]
  rfl
theorem bytesOf_at {m : List Int} (bm : Bys m) (j : Nat) (hj : j < (bytesOf m).length) : ((bytesOf m)[j].toNat : Int) = m.getD j 0 := by
  have hj' : j < m.length := by simpa [bytesOf] using hj
  have h := bm _ (getD_mem' hj')
  have e : m.getD j 0 = m[j] := by simp [List.getD, hj']
  simp only [bytesOf, List.getElem_map]
  rw [e] at h ⊢
  rw [UInt8.toNat_ofNat']
  omega
theorem conv_txt {w : World} {a : Addr} {c n : Nat} {m : List Int} (h : Txt w (some a) c m) (hn : n = m.length) : (convert 25 9 (.slice (some a) n c)).run Tryd.prog w = .ok (.string (strOf m)) w := by
  subst hn
  have hl : m.length = (bytesOf m).length := by simp [bytesOf]
  rw [hl]
  refine run_convert_bytes_back w 25 9 5 a c (bytesOf m) Tryd.underlying25 Tryd.underlying5 Tryd.underlying9 fun j hj => ?_
  obtain ⟨b, off, e, hc⟩ := h.1.at j (by rw [hl]; exact hj)
  simp only [Option.some.injEq] at e
  subst e
  rw [bytesOf_at h.1.2.2.2.1 j hj, Addr.add_mid]
  exact hc
theorem less_ahead : ∀ (x y : List Int), Bys x → Bys y → Op.bytesLess (bytesOf x) (bytesOf y) = ahead x y
  | x, [], _, _ => by cases x <;> rfl
  | [], _ :: _, _, _ => rfl
  | a :: x, b :: y, hx, hy => by
    have ha := hx a (.head _)
    have hb := hy b (.head _)
    have ih := less_ahead x y (fun z hz => hx z (.tail _ hz)) fun z hz => hy z (.tail _ hz)
    show (decide (UInt8.ofNat a.toNat < UInt8.ofNat b.toNat) || (UInt8.ofNat a.toNat == UInt8.ofNat b.toNat && Op.bytesLess (bytesOf x) (bytesOf y))) = _
    rw [ih, ahead]
    have e1 : decide (UInt8.ofNat a.toNat < UInt8.ofNat b.toNat) = decide (a < b) := by
      rw [decide_eq_decide, UInt8.lt_iff_toNat_lt, UInt8.toNat_ofNat', UInt8.toNat_ofNat']
      omega
    have e2 : (UInt8.ofNat a.toNat == UInt8.ofNat b.toNat) = decide (a = b) := by
      rw [Bool.eq_iff_iff, beq_iff_eq, decide_eq_true_iff, ← UInt8.toNat_inj, UInt8.toNat_ofNat', UInt8.toNat_ofNat']
      omega
    rw [e1, e2]
theorem bytesOf_inj : ∀ {x y : List Int}, Bys x → Bys y → bytesOf x = bytesOf y → x = y
  | [], [], _, _, _ => rfl
  | [], _ :: _, _, _, h => by cases h
  | _ :: _, [], _, _, h => by cases h
  | a :: x, b :: y, hx, hy, h => by
    have h1 := (List.cons.inj (show UInt8.ofNat a.toNat :: bytesOf x = UInt8.ofNat b.toNat :: bytesOf y from h))
    have ha := hx a (.head _)
    have hb := hy b (.head _)
    have h2 : a = b := by
      have := congrArg UInt8.toNat h1.1
      rw [UInt8.toNat_ofNat', UInt8.toNat_ofNat'] at this
      omega
    rw [h2, bytesOf_inj (fun z hz => hx z (.tail _ hz)) (fun z hz => hy z (.tail _ hz)) h1.2]
theorem str_less {x y : List Int} (hx : Bys x) (hy : Bys y) : Op.bytesLess (strOf x).toList (strOf y).toList = ahead x y := by rw [strOf_list, strOf_list, less_ahead x y hx hy]
theorem str_same {x y : List Int} (hx : Bys x) (hy : Bys y) : ((strOf x).toList == (strOf y).toList) = decide (x = y) := by
  rw [strOf_list, strOf_list, Bool.eq_iff_iff, beq_iff_eq, decide_eq_true_iff]
  exact ⟨bytesOf_inj hx hy, fun h => by rw [h]⟩
end Go.Proofs.YtaabcllghniaoaaDoor
