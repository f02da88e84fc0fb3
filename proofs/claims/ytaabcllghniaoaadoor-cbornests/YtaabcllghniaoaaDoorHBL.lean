/- Heads: small facts on bytes read one by one. -/
import Derived.Test.YtaabcllghniaoaaDoorHD
import Derived.Test.YtaabcllghniaoaaDoorBF
namespace Go.Proofs.YtaabcllghniaoaaDoor
open Go Go.RowKit
theorem results_tmp4 {fn : Func} {t u v x : Tmp} (h : fn.results = #[.tmp t, .tmp u, .tmp v, .tmp x]) (tmps : Array Value) (P : Program) (w : World) :
    (results fn tmps).run P w = .ok (.tuple #[tmps.getD t undef, tmps.getD u undef, tmps.getD v undef, tmps.getD x undef]) w := by
  simp [results, h]
theorem or_i64 {x y : Nat} (hy : y < 256) (h : x * 256 + y < 9223372036854775808) : bits .or .i64 ((x : Int) * 256) (y : Int) = ((x * 256 + y : Nat) : Int) := by
  rw [bits_join .i64 63 (by decide) (fun n h0 h1 => by rw [IntKind.wrap_i64]; omega) 8 _ _ (by omega) (by omega) (by omega) (by omega) (by omega) (by omega), Int.natCast_add, Int.natCast_mul]
  rfl
theorem getD_mem {m : List Int} {i : Nat} (h : i < m.length) : m.getD i 0 ∈ m := by
  have e : m.getD i 0 = m[i] := by simp [List.getD, h]
  rw [e]
  exact List.getElem_mem h
theorem getD_drop (m : List Int) (q i : Nat) (h : q + i < m.length) : (m.drop q).take (i + 1) = (m.drop q).take i ++ [m.getD (q + i) 0] := by
  have h1 : i < (m.drop q).length := by rw [List.length_drop]; omega
  rw [List.take_succ_eq_append_getElem h1]
  congr 2
  simp [List.getD, h]
/-- What is not more than memory allows is got in at most eight bytes. -/
theorem val_small (m : List Int) (bm : Bys m) (q s i : Nat) (hi : i ≤ s) (hs : s ≤ 8) (h8 : s = 8 → m.getD q 0 ≤ 127) (hl : q + s ≤ m.length) : val 0 ((m.drop q).take i) < 9223372036854775808 := by
  have hb : ∀ x ∈ (m.drop q).take i, (0 : Int) ≤ x ∧ x < 256 := fun x hx => bm x (List.mem_of_mem_drop (List.mem_of_mem_take hx))
  have hlen : ((m.drop q).take i).length = i := by rw [List.length_take, List.length_drop]; omega
  by_cases h : i ≤ 7
  · have := val_lt _ 0 hb
    rw [hlen] at this
    have h2 : (256 : Nat) ^ i ≤ 256 ^ 7 := Nat.pow_le_pow_right (by decide) h
    omega
  · have e8 : i = 8 := by omega
    subst e8
    have hs8 : s = 8 := by omega
    have h9 := h8 hs8
    have hq : q < m.length := by omega
    have e : (m.drop q).take 8 = m.getD q 0 :: (m.drop (q + 1)).take 7 := by
      rw [List.drop_eq_getElem_cons hq, List.take_succ_cons]
      congr 1
      simp [List.getD, hq]
    rw [e, val]
    have hb2 : ∀ x ∈ (m.drop (q + 1)).take 7, (0 : Int) ≤ x ∧ x < 256 := fun x hx => bm x (List.mem_of_mem_drop (List.mem_of_mem_take hx))
    have := val_lt _ (0 * 256 + (m.getD q 0).toNat) hb2
    have hlen2 : ((m.drop (q + 1)).take 7).length = 7 := by rw [List.length_take, List.length_drop]; omega
    rw [hlen2] at this
    have h3 : (0 * 256 + (m.getD q 0).toNat + 1) * 256 ^ 7 ≤ 128 * 256 ^ 7 := Nat.mul_le_mul_right _ (by omega)
    omega
theorem val_big (m : List Int) (q : Nat) (h8 : 127 < m.getD q 0) (hl : q + 8 ≤ m.length) : 9223372036854775808 ≤ val 0 ((m.drop q).take 8) := by
  have hq : q < m.length := by omega
  have e : (m.drop q).take 8 = m.getD q 0 :: (m.drop (q + 1)).take 7 := by
    rw [List.drop_eq_getElem_cons hq, List.take_succ_cons]
    congr 1
    simp [List.getD, hq]
  have hlen2 : ((m.drop (q + 1)).take 7).length = 7 := by rw [List.length_take, List.length_drop]; omega
  have low : ∀ (l : List Int) (s : Nat), s * 256 ^ l.length ≤ val s l := fun l => by
    induction l with
    | nil => intro s; simp [val]
    | cons x r ih =>
      intro s
      have := ih (s * 256 + x.toNat)
      rw [val, List.length_cons, Nat.pow_succ]
      refine Nat.le_trans ?_ this
      rw [Nat.mul_comm (256 ^ r.length), ← Nat.mul_assoc]
      exact Nat.mul_le_mul_right _ (by omega)
  rw [e, val]
  have := low ((m.drop (q + 1)).take 7) (0 * 256 + (m.getD q 0).toNat)
  rw [hlen2] at this
  have h3 : 128 * 256 ^ 7 ≤ (0 * 256 + (m.getD q 0).toNat) * 256 ^ 7 := Nat.mul_le_mul_right _ (by omega)
  omega
/-- The bytes from a place on, as a text of their own. -/
theorem Txt.part {w : World} {b off cap : Nat} {m : List Int} (h : Txt w (some ⟨b, off, none⟩) cap m) (q n : Nat) (hn : q + n ≤ m.length) (hp : q < cap) : BytesV w (some ⟨b, off + q, none⟩) n (cap - q) ((m.drop q).take n) := by
  have h1 := (h.1.drop q (by omega)).take n (by omega)
  rw [cutAddr, if_neg (by omega), Option.map_some, Addr.add_mid] at h1
  exact h1
end Go.Proofs.YtaabcllghniaoaaDoor
