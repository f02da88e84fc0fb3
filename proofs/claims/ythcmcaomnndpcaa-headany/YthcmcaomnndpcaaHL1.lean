/- The law HeadAny, over contracts. -/
import Derived.Test.YthcmcaomnndpcaaHB4
namespace Go.Proofs.Ythcmcaomnndpcaa
open Go Go.RowKit
set_option maxRecDepth 100000 in
set_option maxHeartbeats 2000000 in
theorem hany_is {T : World → Prop} (F : Hed T) {a : Option Addr} {c : Nat} {m : List Int} (x : Int) (hx1 : -9223372036854775808 ≤ x) (hx2 : x < 9223372036854775808) (w : World) (hT : T w) (hm : Txt w a c m) : Calls Try.prog 6 #[.slice a m.length c, .int .i64 x] w fun e w' => e = .returned (.bool true) ∧ Below w.heap.size w w' := by
  by_cases hl : 300 < m.length
  · have hl' : (300 : Int) < (m.length : Int) := by omega
    go_enter Try.func6, Try.ntmps6
    go_wp2_with fail
    go_ret
    exact ⟨rfl, Below.refl _ _⟩
  have hl' : ¬ (300 : Int) < (m.length : Int) := by omega
  have hlen : (m.length : Int) ≤ 300 := by omega
  have bm : Bys m := hm.1.2.2.2.1
  have hcall := F.get x hx1 hx2 a c m (by omega) w hT hm
  rcases hgetR_cases m bm x with ⟨h, e⟩ | ⟨h, e⟩ | ⟨q, mj, n, rfl, hq, hmj, hn, hk, hh, hd32, e⟩
  · rw [e] at hcall
    replace hcall := show Hid _ from hcall
    clear e
    go_enter Try.func6, Try.ntmps6
    go_wp2_with fail
    refine Calls.mono hcall.out ?_
    rintro e w1 ⟨rfl, hb1⟩
    unfold got
    by_cases h0 : x < 0
    · go_wp2_with fail
      refine (hwakes F w1 (F.keep _ _ hT hb1)).mono ?_
      rintro e w2 ⟨rfl, hb2⟩
      go_wp2_with fail
      go_ret
      exact ⟨rfl, hb1.trans (hb2.mono hb1.size)⟩
    · have h1 := h.resolve_left h0
      go_wp2_with fail
      refine (hwakes F w1 (F.keep _ _ hT hb1)).mono ?_
      rintro e w2 ⟨rfl, hb2⟩
      go_wp2_with fail
      go_ret
      exact ⟨rfl, hb1.trans (hb2.mono hb1.size)⟩
  · rw [e] at hcall
    replace hcall := show Hid _ from hcall
    clear e
    have hd0 : decide (x < 0) = false := decide_eq_false (by omega)
    have hd1 : decide ((m.length : Int) < x) = false := decide_eq_false (by omega)
    clear h
    go_enter Try.func6, Try.ntmps6
    go_wp2_with fail
    refine Calls.mono hcall.out ?_
    rintro e w1 ⟨rfl, hb1⟩
    unfold got
    go_wp2_with fail
    refine (hwakes F w1 (F.keep _ _ hT hb1)).mono ?_
    rintro e w2 ⟨rfl, hb2⟩
    go_wp2_with fail
    go_ret
    exact ⟨rfl, hb1.trans (hb2.mono hb1.size)⟩
  · rw [e] at hcall
    replace hcall := show Hid _ from hcall
    clear e
    obtain ⟨k, Hk⟩ : ∃ k, Hid (1 + hsize n = k) := ⟨_, rfl⟩
    have hk1 : 1 ≤ k := by have := Hk.out; omega
    rw [Hk.out] at hcall hk hh
    replace hh := show Hid _ from hh
    replace hd32 := show Hid _ from hd32
    have hq' : (q : Int) < (m.length : Int) := by omega
    have hq0 : (0 : Int) ≤ (q : Int) := by omega
    have hk' : (q : Int) + (k : Int) ≤ (m.length : Int) := by omega
    have hk1' : (1 : Int) ≤ (k : Int) := by omega
    obtain ⟨b, off, rfl, c0⟩ := hm.1.at q hq
    have hb := bm _ (getD_mem hq)
    obtain ⟨y, Hy⟩ : ∃ y : Int, Hid (m.getD q 0 = y) := ⟨_, rfl⟩
    rw [Hy.out] at c0 hb hd32
    go_enter Try.func6, Try.ntmps6
    go_wp2_with fail
    refine Calls.mono hcall.out ?_
    rintro e w1 ⟨rfl, hb1⟩
    unfold got
    have c1 : w1.cell? ⟨b, off + q, none⟩ = some (.int .u8 y) := by rw [hb1.cell (World.block_lt_of_cell? w _ c0)]; exact c0
    have hcap := hm.1.2.1
    have t1 : decide ((m.length : Int) ≤ (q : Int)) = false := decide_eq_false (by omega)
    have t2 : decide ((q : Int) + (k : Int) ≤ (q : Int)) = false := decide_eq_false (by omega)
    have t3 : decide ((m.length : Int) < (q : Int) + (k : Int)) = false := decide_eq_false (by omega)
    have t4 : ((mj : Int) == y / 32) = true := by rw [hd32.out]; simp
    have t5 : ((mj : Int) != y / 32) = false := by rw [bne, t4]; rfl
    clear hx1 hx2
    replace hn := show Hid _ from hn
    go_wp2_with fail
    refine (F.put mj n hmj hn.out none 0 [] (by decide) w1 (F.keep _ _ hT hb1) (txt_nil w1)).mono ?_
    rintro e w2 ⟨v, rfl, hO, hb2⟩
    obtain ⟨a2, c2, rfl, hV⟩ := hO.form (hd_bytes hmj)
    have hno := own_none hO
    have hB2 := hb1.trans (hb2.mono hb1.size)
    have hlenX : ([] ++ hd mj n).length = k := by rw [List.nil_append, hd_length]; exact Hk.out
    rw [hlenX] at hV ⊢
    go_wp2_with fail
    rw [List.nil_append] at hV
    refine (bytes_cmp hV ((Txt.part hm q k hk (by omega)).below hB2)).mono ?_
    rintro e w3 ⟨rfl, hb3⟩
    rw [decide_eq_true hh.out]
    have hB3 := hB2.trans (hb3.mono hB2.size)
    go_wp2_with fail
    refine (hwakes F w3 (F.keep _ _ hT hB3)).mono ?_
    rintro e w4 ⟨rfl, hb4⟩
    go_wp2_with fail
    go_ret
    exact ⟨rfl, hB3.trans (hb4.mono hB3.size)⟩
end Go.Proofs.Ythcmcaomnndpcaa
