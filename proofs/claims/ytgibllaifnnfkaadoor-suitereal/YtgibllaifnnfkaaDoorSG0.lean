/- Bytes of numbers as texts; sums of texts as numbers of 64 bytes; the functions that signing leans on, by contract. -/
import Derived.Test.YtgibllaifnnfkaaDoorHK
import Derived.Test.YtgibllaifnnfkaaDoorEA
import Derived.Test.YtgibllaifnnfkaaDoorCA
namespace Go.Proofs.YtgibllaifnnfkaaDoor
open Go Go.RowKit
/-- 32 bytes of a number as a text. -/
def by32 (n : Nat) : List Int := (List.range 32).map fun i => (bdig n i : Int)
theorem by32_length (n : Nat) : (by32 n).length = 32 := by simp [by32]
theorem by32_bys (n : Nat) : H.Bys (by32 n) := fun x hx => by
  obtain ⟨i, -, rfl⟩ := List.mem_map.1 hx
  have := bdig_lt n i
  omega
theorem by32_u8s (n : Nat) : H.u8s (by32 n) = (B32 (bdig n)).toList := by
  unfold H.u8s by32 B32
  simp
theorem digest_bys (l : List Int) : H.Bys (H.digest l) := fun x hx => by
  unfold H.digest H.sumBytes at hx
  obtain ⟨y, -, hy⟩ := List.mem_flatMap.1 hx
  exact H.be8_bys y x hy
/-- A text's sum as a number, the lowest byte first. -/
def dn (l : List Int) : Nat := vb (fun i => ((H.digest l).getD i 0).toNat) 64
theorem digest_at (l : List Int) (i : Nat) : 0 ≤ (H.digest l).getD i 0 ∧ (H.digest l).getD i 0 < 256 := by
  by_cases hi : i < (H.digest l).length
  · have e : (H.digest l).getD i 0 = (H.digest l)[i] := by simp [List.getD, hi]
    rw [e]
    exact digest_bys l _ (List.getElem_mem hi)
  · have e : (H.digest l).getD i 0 = 0 := by simp [List.getD, hi]
    rw [e]
    decide
theorem dn_byte (l : List Int) (i : Nat) (hi : i < 64) : (bdig (dn l) i : Int) = (H.digest l).getD i 0 := by
  have hb := digest_at l i
  unfold dn
  rw [bdig_vb _ 64 (fun j _ => by have := digest_at l j; omega) i hi]
  omega
theorem dn_lt (l : List Int) : dn l < R512 := by
  have h : R512 = 256 ^ 64 := by decide
  rw [h]
  exact vb_lt _ 64 fun i _ => by have := digest_at l i; omega
theorem dig_dn (l : List Int) : H.dig l = B64 (bdig (dn l)) := by
  apply Array.ext_getElem?
  intro i
  by_cases hi : i < 64
  · rw [B64_at _ i hi, dn_byte l i hi]
    have hl := H.digest_length l
    have hi' : i < (H.digest l).length := by omega
    simp [H.dig, H.u8s, List.getD, hi']
  · rw [Array.getElem?_eq_none (by rw [H.dig_size]; omega), Array.getElem?_eq_none (by rw [B64_size]; omega)]
theorem R256_pow : R256 = 256 ^ 32 := by decide
theorem bdig_lo (z j : Nat) (hj : j < 32) : bdig (z % R256) j = bdig z j := by
  unfold bdig
  rw [R256_pow, show (256 : Nat) ^ 32 = 256 ^ j * 256 ^ (32 - j) by rw [← Nat.pow_add]; congr 1; omega, Nat.mod_mul_right_div_self]
  rw [Nat.mod_mod_of_dvd]
  exact ⟨256 ^ (32 - j - 1), by rw [← Nat.pow_succ']; congr 1; omega⟩
theorem bdig_hi (z j : Nat) : bdig (z / R256) j = bdig z (32 + j) := by
  unfold bdig
  rw [R256_pow, Nat.div_div_eq_div_mul, ← Nat.pow_add]
/-- Two numbers of 32 bytes side by side. -/
def two (lo hi : Nat) : Nat := lo + R256 * hi
theorem two_lo {lo hi : Nat} (h : lo < R256) : two lo hi % R256 = lo := by
  unfold two
  rw [Nat.add_mul_mod_self_left, Nat.mod_eq_of_lt h]
theorem two_hi {lo hi : Nat} (h : lo < R256) : two lo hi / R256 = hi := by
  unfold two
  rw [Nat.add_mul_div_left _ _ (by decide), Nat.div_eq_of_lt h, Nat.zero_add]
theorem two_parts (z : Nat) : two (z % R256) (z / R256) = z := Nat.mod_add_div z R256
theorem two_lt {lo hi : Nat} (h : lo < R256) (h2 : hi < R256) : two lo hi < R512 := by
  unfold two
  rw [R512_eq]
  generalize R256 = R at *
  have h3 : R * (hi + 1) ≤ R * R := Nat.mul_le_mul_left _ h2
  rw [Nat.mul_add, Nat.mul_one] at h3
  omega
theorem lo_lt (z : Nat) : z % R256 < R256 := Nat.mod_lt _ (by decide)
theorem hi_lt {z : Nat} (h : z < R512) : z / R256 < R256 := by
  rw [R512_eq] at h
  exact Nat.div_lt_of_lt_mul h
theorem B64_lo {w : World} {b z : Nat} {t : TypeId} (h : Own w b (B64 (bdig z)) t) : w.rangeAt b 0 (B32 (bdig (z % R256))).toList := fun j v hv => by
  rw [Array.getElem?_toList] at hv
  have hj : j < 32 := by have := (Array.getElem?_eq_some_iff.1 hv).1; rwa [B32_size] at this
  rw [B32_at _ j hj, bdig_lo z j hj] at hv
  rw [Nat.zero_add, ← hv]
  exact h.cell (B64_at _ j (by omega))
theorem B64_hi {w : World} {b z : Nat} {t : TypeId} (h : Own w b (B64 (bdig z)) t) : w.rangeAt b 32 (B32 (bdig (z / R256))).toList := fun j v hv => by
  rw [Array.getElem?_toList] at hv
  have hj : j < 32 := by have := (Array.getElem?_eq_some_iff.1 hv).1; rwa [B32_size] at this
  rw [B32_at _ j hj, bdig_hi z j] at hv
  rw [← hv]
  exact h.cell (B64_at _ (32 + j) (by omega))
theorem bytes_at {w : World} {b o c n : Nat} (hc : 32 ≤ c) (hm : c ≤ maxLen) (h : w.rangeAt b o (B32 (bdig n)).toList) : H.BytesV w (some ⟨b, o, none⟩) 32 c (by32 n) :=
  ⟨(by32_length n).symm, hc, hm, by32_bys n, fun _ => ⟨b, o, rfl, by rw [by32_u8s]; exact h⟩⟩
theorem bytes_own {w : World} {b n : Nat} {t : TypeId} (h : Own w b (B32 (bdig n)) t) : H.BytesV w (some ⟨b, 0, none⟩) 32 32 (by32 n) := bytes_at (Nat.le_refl _) (by decide) h.range
theorem bytes_lo {w : World} {b z : Nat} {t : TypeId} (h : Own w b (B64 (bdig z)) t) : H.BytesV w (some ⟨b, 0, none⟩) 32 64 (by32 (z % R256)) := bytes_at (by decide) (by decide) (B64_lo h)
theorem bytes_hi {w : World} {b z : Nat} {t : TypeId} (h : Own w b (B64 (bdig z)) t) : H.BytesV w (some ⟨b, 32, none⟩) 32 32 (by32 (z / R256)) := bytes_at (Nat.le_refl _) (by decide) (B64_hi h)
theorem B64_le (f g : Nat → Nat) : 0 + (B64 f).size ≤ (B64 g).size := by rw [B64_size, B64_size]; exact Nat.le_refl _
theorem B64_list (f : Nat → Nat) : B64 f = (((List.range 64).map fun i => (f i : Int)).map (Value.int .u8)).toArray := by
  unfold B64; rw [List.map_map]; rfl
theorem infoU8s : (Tryd.prog.info? 5).map (·.size) = some 1 := by kernel_rfl
set_option maxRecDepth 100000 in
theorem B64_eq (x y : Nat) (hx : x < R512) (hy : y < R512) (w : World) : (Op.equalIn 10000 24 (.agg (B64 (bdig x))) (.agg (B64 (bdig y)))).run Tryd.prog w = .ok (decide (x = y)) w := by
  have h := run_equalIn_ints (P := Tryd.prog) w 9998 24 5 64 .u8 Tryd.underlying24 Tryd.underlying5 infoU8s ((List.range 64).map fun i => (bdig x i : Int)) ((List.range 64).map fun i => (bdig y i : Int)) (by simp) (by simp)
  rw [B64_list, B64_list]
  rw [h]
  congr 1
  by_cases e : x = y
  · subst e; simp
  · rw [decide_eq_false e]
    refine beq_eq_false_iff_ne.2 fun he => e ?_
    rw [← vb64 hx, ← vb64 hy]
    refine vb_congr 64 fun i hi => ?_
    have := congrArg (fun l : List Int => l[i]?) he
    simp [hi] at this
    exact_mod_cast this
theorem B64_same (x : Nat) (hx : x < R512) (w : World) : (Op.equalIn 10000 24 (.agg (B64 (bdig x))) (.agg (B64 (bdig x)))).run Tryd.prog w = .ok true w := by
  rw [B64_eq x x hx hx]; simp
/-- A text that was handed in. -/
def Txt (w : World) (a : Option Addr) (cap : Nat) (m : List Int) : Prop := H.BytesV w a m.length cap m ∧ (a = none → cap = 0)
theorem Txt.below {w w' : World} {a : Option Addr} {cap : Nat} {m : List Int} (h : Txt w a cap m) (hB : Below w.heap.size w w') : Txt w' a cap m := ⟨h.1.below hB, h.2⟩
/-- What signing leans on, by what it answers; T: what it wants of memory. -/
structure Low (T : World → Prop) : Prop where
  keep : ∀ w w', T w → Below w.heap.size w w' → T w'
  wsum : ∀ a len cap ms w, T w → H.RowsV w a len cap ms → ms.flatten.length ≤ 16000000 → Calls Tryd.prog 19 #[.slice a len cap] w fun x w' => x = .returned (.agg (B64 (bdig (dn ms.flatten)))) ∧ Below w.heap.size w w'
  swide : ∀ a, a < R512 → ∀ w, T w → Calls Tryd.prog 18 #[.agg (B64 (bdig a))] w fun x w' => x = .returned (.agg (B32 (bdig (a % LL)))) ∧ Below w.heap.size w w'
  scheck : ∀ a, a < R256 → ∀ w, T w → Calls Tryd.prog 22 #[.agg (B32 (bdig a))] w fun x w' => x = .returned (.bool (decide (a < LL))) ∧ Below w.heap.size w w'
  smuladd : ∀ a b c, a < R256 → b < R256 → c < R256 → ∀ w, T w → Calls Tryd.prog 20 #[.agg (B32 (bdig a)), .agg (B32 (bdig b)), .agg (B32 (bdig c))] w fun x w' => x = .returned (.agg (B32 (bdig ((a * b + c) % LL)))) ∧ Below w.heap.size w w'
  add : ∀ (P Q : Pt E5) w, T w → Calls Tryd.prog 24 #[.agg (B32 (bdig (enc P))), .agg (B32 (bdig (enc Q)))] w fun x w' => x = .returned (.tuple #[.agg (B32 (bdig (enc (P.add Q)))), .int .i64 0]) ∧ Below w.heap.size w w'
  add_not : ∀ a b, a < R256 → b < R256 → ((∀ P : Pt E5, enc P ≠ a) ∨ ∀ P : Pt E5, enc P ≠ b) → ∀ w, T w → Calls Tryd.prog 24 #[.agg (B32 (bdig a)), .agg (B32 (bdig b))] w fun x w' => x = .returned (.tuple #[.agg (B32 fun _ => 0), .int .i64 1]) ∧ Below w.heap.size w w'
  mul : ∀ n, n < R256 → ∀ (P : Pt E5) w, T w → Calls Tryd.prog 23 #[.agg (B32 (bdig n)), .agg (B32 (bdig (enc P)))] w fun x w' => x = .returned (.tuple #[.agg (B32 (bdig (enc (Pt.times n P)))), .int .i64 0]) ∧ Below w.heap.size w w'
  mul_not : ∀ n a, n < R256 → a < R256 → (∀ P : Pt E5, enc P ≠ a) → ∀ w, T w → Calls Tryd.prog 23 #[.agg (B32 (bdig n)), .agg (B32 (bdig a))] w fun x w' => x = .returned (.tuple #[.agg (B32 fun _ => 0), .int .i64 1]) ∧ Below w.heap.size w w'
  base : ∀ n, n < R256 → ∀ w, T w → Calls Tryd.prog 17 #[.agg (B32 (bdig n))] w fun x w' => x = .returned (.agg (B32 (bdig (enc (Pt.times n BP))))) ∧ Below w.heap.size w w'
section
variable {T : World → Prop} (F : Low T)
include F
theorem Low.wsumA {a : Option Addr} {len cap z : Nat} {ms : List (List Int)} {l : List Int} (hl : ms.flatten = l) (hz : dn l = z) (hn : l.length ≤ 16000000) (w : World) (hT : T w) (hR : H.RowsV w a len cap ms) : Calls Tryd.prog 19 #[.slice a len cap] w fun x w' => x = .returned (.agg (B64 (bdig z))) ∧ Below w.heap.size w w' := by
  subst hl; subst hz; exact F.wsum a len cap ms w hT hR hn
theorem Low.swideA {a c : Nat} (ha : a < R512) (hc : a % LL = c) (w : World) (hT : T w) : Calls Tryd.prog 18 #[.agg (B64 (bdig a))] w fun x w' => x = .returned (.agg (B32 (bdig c))) ∧ Below w.heap.size w w' := by
  subst hc; exact F.swide a ha w hT
theorem Low.smuladdA {a b c d : Nat} (ha : a < R256) (hb : b < R256) (hc : c < R256) (hd : (a * b + c) % LL = d) (w : World) (hT : T w) : Calls Tryd.prog 20 #[.agg (B32 (bdig a)), .agg (B32 (bdig b)), .agg (B32 (bdig c))] w fun x w' => x = .returned (.agg (B32 (bdig d))) ∧ Below w.heap.size w w' := by
  subst hd; exact F.smuladd a b c ha hb hc w hT
theorem Low.scheckA {a : Nat} {b : Bool} (ha : a < R256) (hb : decide (a < LL) = b) (w : World) (hT : T w) : Calls Tryd.prog 22 #[.agg (B32 (bdig a))] w fun x w' => x = .returned (.bool b) ∧ Below w.heap.size w w' := by
  subst hb; exact F.scheck a ha w hT
theorem Low.addA {P Q : Pt E5} {a b c : Nat} (ha : enc P = a) (hb : enc Q = b) (hc : enc (P.add Q) = c) (w : World) (hT : T w) : Calls Tryd.prog 24 #[.agg (B32 (bdig a)), .agg (B32 (bdig b))] w fun x w' => x = .returned (.tuple #[.agg (B32 (bdig c)), .int .i64 0]) ∧ Below w.heap.size w w' := by
  subst ha; subst hb; subst hc; exact F.add P Q w hT
theorem Low.mulA {n : Nat} {P : Pt E5} {a c : Nat} (hn : n < R256) (ha : enc P = a) (hc : enc (Pt.times n P) = c) (w : World) (hT : T w) : Calls Tryd.prog 23 #[.agg (B32 (bdig n)), .agg (B32 (bdig a))] w fun x w' => x = .returned (.tuple #[.agg (B32 (bdig c)), .int .i64 0]) ∧ Below w.heap.size w w' := by
  subst ha; subst hc; exact F.mul n hn P w hT
theorem Low.baseA {n c : Nat} (hn : n < R256) (hc : enc (Pt.times n BP) = c) (w : World) (hT : T w) : Calls Tryd.prog 17 #[.agg (B32 (bdig n))] w fun x w' => x = .returned (.agg (B32 (bdig c))) ∧ Below w.heap.size w w' := by
  subst hc; exact F.base n hn w hT
end
end Go.Proofs.YtgibllaifnnfkaaDoor
