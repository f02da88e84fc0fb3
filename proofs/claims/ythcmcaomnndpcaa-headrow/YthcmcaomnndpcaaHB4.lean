/- The page's Get at any place; the program's heads by contract. -/
import Derived.Test.YthcmcaomnndpcaaHB3
import Derived.Test.YthcmcaomnndpcaaBS
namespace Go.Proofs.Ythcmcaomnndpcaa
open Go Go.RowKit
/-- The four values that Get answers. -/
def got (r : Int × Int × Int × Int) : Value := .tuple #[.int .i64 r.1, .int .i64 r.2.1, .int .i64 r.2.2.1, .int .i64 r.2.2.2]
theorem pget_is {a : Option Addr} {cap : Nat} {m : List Int} (x : Int) {w : World} (hm : Txt w a cap m) (hl : m.length ≤ 1000000) : Calls Try.prog 14 #[.slice a m.length cap, .int .i64 x] w fun e w' => e = .returned (got (hgetR m x)) ∧ Below w.heap.size w w' := by
  by_cases h : x < 0 ∨ (m.length : Int) ≤ x
  · refine (pget_end hm hl h).mono ?_
    rintro e w' ⟨rfl, rfl⟩
    refine ⟨?_, Below.refl _ _⟩
    have e : hgetR m x = (0, 0, 0, if x = (m.length : Int) then 3 else 1) := by
      unfold hgetR
      by_cases hx : x = (m.length : Int)
      · subst hx
        rw [if_neg (by omega), if_pos rfl, Int.toNat_natCast, List.drop_length]
        rfl
      · rw [if_pos (by omega), if_neg hx]
    rw [e]
    rfl
  · obtain ⟨q, rfl⟩ := Int.eq_ofNat_of_zero_le (show 0 ≤ x by omega)
    have hq : q < m.length := by omega
    have hb := hm.1.2.2.2.1 _ (getD_mem hq)
    exact pget_in hm hl hq (c := (m.getD q 0).toNat) (Int.toNat_of_nonneg hb.1).symm
theorem hgetR_cases (m : List Int) (bm : Bys m) (x : Int) : ((x < 0 ∨ (m.length : Int) < x) ∧ hgetR m x = (0, 0, 0, 1)) ∨ ((0 ≤ x ∧ x ≤ (m.length : Int)) ∧ hgetR m x = (0, 0, 0, 3)) ∨
    ∃ q mj n : Nat, x = (q : Int) ∧ q < m.length ∧ mj ≤ 7 ∧ n < 9223372036854775808 ∧ q + (1 + hsize n) ≤ m.length ∧ hd mj n = (m.drop q).take (1 + hsize n) ∧ m.getD q 0 / 32 = (mj : Int) ∧ hgetR m x = ((mj : Int), (n : Int), (q : Int) + ((1 + hsize n : Nat) : Int), 0) := by
  by_cases h : x < 0 ∨ (m.length : Int) < x
  · exact .inl ⟨h, by unfold hgetR; rw [if_pos h]⟩
  · obtain ⟨q, rfl⟩ := Int.eq_ofNat_of_zero_le (show 0 ≤ x by omega)
    have e0 : hgetR m (q : Int) = match hget (m.drop q) with
      | none => (0, 0, 0, 3)
      | some (major, n, k) => ((major : Int), (n : Int), (q : Int) + (k : Int), 0) := by unfold hgetR; rw [if_neg h, Int.toNat_natCast]; cases hget (m.drop q) <;> rfl
    cases hg : hget (m.drop q) with
    | none => exact .inr (.inl ⟨by omega, by rw [e0, hg]⟩)
    | some y =>
      obtain ⟨mj, n, k⟩ := y
      obtain ⟨h1, h2, h3, h4, h5⟩ := hget_some hg fun z hz => bm z (List.mem_of_mem_drop hz)
      rw [List.length_drop] at h4
      have hq : q < m.length := by omega
      subst h2
      refine .inr (.inr ⟨q, mj, n, rfl, hq, h5, h1, by omega, h3, ?_, by rw [e0, hg]⟩)
      rw [List.drop_eq_getElem_cons hq, Nat.add_comm, List.take_succ_cons, hd] at h3
      have h6 := (List.cons.inj h3).1
      have h7 : m.getD q 0 = m[q] := by simp [List.getD, hq]
      have h8 := hlow_le n
      rw [h7, ← h6]
      omega
/-- The program's functions, by what they answer; T: what they want of memory. -/
structure Hed (T : World → Prop) : Prop where
  keep : ∀ w w', T w → Below w.heap.size w w' → T w'
  put : ∀ (mj n : Nat), mj ≤ 7 → n < 9223372036854775808 → ∀ (a : Option Addr) (c : Nat) (m : List Int), m.length ≤ 100000 → ∀ w, T w → Txt w a c m → Calls Try.prog 9 #[.slice a m.length c, .int .i64 mj, .int .i64 n] w fun e w' => ∃ v, e = .returned (.tuple #[v, .int .i64 0]) ∧ OwnBytes w' w.heap.size v (m ++ hd mj n) ∧ Below w.heap.size w w'
  put_no : ∀ (mj n : Int), ¬ (0 ≤ mj ∧ mj ≤ 7 ∧ 0 ≤ n) → ∀ (a : Option Addr) (c : Nat) (m : List Int), m.length ≤ 100000 → ∀ w, T w → Txt w a c m → Calls Try.prog 9 #[.slice a m.length c, .int .i64 mj, .int .i64 n] w fun e w' => ∃ a' c', e = .returned (.tuple #[.slice a' 0 c', .int .i64 1]) ∧ Below w.heap.size w w'
  get : ∀ (x : Int), -9223372036854775808 ≤ x → x < 9223372036854775808 → ∀ (a : Option Addr) (c : Nat) (m : List Int), m.length ≤ 100000 → ∀ w, T w → Txt w a c m → Calls Try.prog 13 #[.slice a m.length c, .int .i64 x] w fun e w' => e = .returned (got (hgetR m x)) ∧ Below w.heap.size w w'
theorem txt_three {w : World} {b : Nat} {x y z : Int} (h : Own w b #[.int .u8 x, .int .u8 y, .int .u8 z] 5) (hb : Bys [x, y, z]) : Txt w (some ⟨b, 0, none⟩) 3 [x, y, z] :=
  ⟨⟨rfl, Nat.le_refl _, by decide, hb, fun _ => ⟨b, 0, rfl, h.range⟩⟩, fun e => by cases e⟩
set_option maxRecDepth 100000 in
set_option maxHeartbeats 1000000 in
theorem hwakes {T : World → Prop} (F : Hed T) (w : World) (hT : T w) : Calls Try.prog 15 #[] w fun e w' => e = .returned (.bool true) ∧ Below w.heap.size w w' := by
  go_enter Try.func15, Try.ntmps15
  go_wp2_with fail
  refine (F.put 0 500 (by decide) (by decide) none 0 [] (by decide) w hT (txt_nil w)).mono ?_
  rintro e w1 ⟨v, rfl, hO, hb1⟩
  have hb : Bys ([] ++ hd 0 500) := hd_bytes (by decide)
  obtain ⟨a1, c1, rfl, hV⟩ := hO.form hb
  have hX : Txt w1 a1 c1 [25, 1, 244] := ⟨hV, own_none hO⟩
  go_wp2_with fail
  refine (F.get 0 (by decide) (by decide) a1 c1 [25, 1, 244] (by decide) w1 (F.keep _ _ hT hb1) hX).mono ?_
  rintro e w2 ⟨rfl, hb2⟩
  have hg : got (hgetR [25, 1, 244] 0) = .tuple #[.int .i64 0, .int .i64 500, .int .i64 3, .int .i64 0] := by rfl
  rw [hg]
  have hB := hb1.trans (hb2.mono hb1.size)
  go_wp2_with fail
  refine (bytes_cmp (m := [25, 1, 244]) ((hX.below hb2).below (alloc_below w2 _)).1 (txt_three (own_new w2 #[.int .u8 25, .int .u8 1, .int .u8 244] 5) (by intro y hy; simp at hy; omega)).1).mono ?_
  rintro e w3 ⟨rfl, hb3⟩
  rw [decide_eq_true rfl]
  go_wp2_with fail
  go_ret
  refine ⟨rfl, ?_⟩
  have h := hB.alloc hB.size (.cells #[.int .u8 25, .int .u8 1, .int .u8 244] 5)
  exact h.trans (hb3.mono h.size)
end Go.Proofs.Ythcmcaomnndpcaa
