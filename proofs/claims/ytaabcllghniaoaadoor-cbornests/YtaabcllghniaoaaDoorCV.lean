/- The program's cbor by contract; the laws' waking call. -/
import Derived.Test.YtaabcllghniaoaaDoorCM2
import Derived.Test.YtaabcllghniaoaaDoorCP
namespace Go.Proofs.YtaabcllghniaoaaDoor
open Go Go.RowKit
/-- The program's functions, by what they answer; T: what they want of memory. -/
structure Cbor (T : World → Prop) : Prop where
  keep : ∀ w w', T w → Below w.heap.size w w' → T w'
  check : ∀ (a : Option Addr) (c : Nat) (l : List Tk), Light l → ∀ w, T w → Toks w a c l → Calls Tryd.prog 13 #[.slice a l.length c] w fun e w' => e = .returned (.int .i64 (if (enc l).isSome = true then 0 else 1)) ∧ Below w.heap.size w w'
  encode : ∀ (a : Option Addr) (c : Nat) (l : List Tk), Light l → ∀ w, T w → Toks w a c l → Calls Tryd.prog 12 #[.slice a l.length c] w fun e w' => ((enc l = none ∧ ∃ a' c', e = .returned (.tuple #[.slice a' 0 c', .int .i64 1]) ∧ Txt w' a' c' []) ∨ ∃ x a' c', enc l = some x ∧ e = .returned (.tuple #[.slice a' x.length c', .int .i64 0]) ∧ OwnBytes w' w.heap.size (.slice a' x.length c') x ∧ Bys x) ∧ Below w.heap.size w w'
  decode : ∀ (a : Option Addr) (c : Nat) (m : List Int), m.length ≤ 100000 → ∀ w, T w → Txt w a c m → Calls Tryd.prog 16 #[.slice a m.length c] w fun e w' => ((dec m = none ∧ ∃ a' c', e = .returned (.tuple #[.slice a' 0 c', .int .i64 3]) ∧ Toks w' a' c' []) ∨ ∃ l a' c', dec m = some l ∧ e = .returned (.tuple #[.slice a' l.length c', .int .i64 0]) ∧ Toks w' a' c' l) ∧ Below w.heap.size w w'
  utf8 : ∀ (a : Option Addr) (c : Nat) (m : List Int), m.length ≤ 100000 → ∀ w, T w → Txt w a c m → Calls Tryd.prog 20 #[.slice a m.length c] w fun e w' => e = .returned (.bool (utf8 m)) ∧ Below w.heap.size w w'
/-- A text that the program's own letters make. -/
theorem lit_txt (w : World) (m : List Int) (hb : Bys m) (hl : m.length ≤ 1000000) : Below w.heap.size w ((w.alloc (.cells (u8s m).toArray 5)).freeze ⟨w.heap.size, m.length, none⟩ 1) ∧ Txt ((w.alloc (.cells (u8s m).toArray 5)).freeze ⟨w.heap.size, m.length, none⟩ 1) (some ⟨w.heap.size, 0, none⟩) m.length m := by
  have ho := own_new w (u8s m).toArray 5
  obtain ⟨fr, hf⟩ := ho.rowAt
  have hfz := heap_freeze (w.alloc (.cells (u8s m).toArray 5)) w.heap.size m.length
  have hrow : RowAt ((w.alloc (.cells (u8s m).toArray 5)).freeze ⟨w.heap.size, m.length, none⟩ 1) w.heap.size (u8s m).toArray 5 := by
    unfold RowAt
    rw [hfz, if_pos rfl, hf]
    exact ⟨_, rfl⟩
  have hB := alloc_below w (.cells (u8s m).toArray 5)
  refine ⟨⟨hB.os, hB.tape, hB.output, ?_, fun k hk => ?_⟩, ⟨rfl, Nat.le_refl _, by unfold maxLen; omega, hb, fun _ => ⟨_, 0, rfl, fun j v hj => ?_⟩⟩, fun e => by cases e⟩
  · have := hB.size
    unfold World.freeze
    simp only
    split
    · exact this
    · simp only [Array.size_modify]; exact this
  · rw [hfz, if_neg (by omega)]
    exact hB.block k hk
  · rw [Nat.zero_add]
    exact hrow.cell (by simpa using hj)
theorem txt_cells {w : World} {g : Nat} {l : List Int} (h : Own w g (u8s l).toArray 5) (hb : Bys l) (hl : l.length ≤ 1000000) : Txt w (some ⟨g, 0, none⟩) l.length l :=
  ⟨⟨rfl, Nat.le_refl _, by unfold maxLen; omega, hb, fun _ => ⟨g, 0, rfl, h.range⟩⟩, fun e => by cases e⟩
theorem bys_of {l : List Int} (h : (l.all fun x => decide (0 ≤ x ∧ x < 256)) = true) : Bys l := fun x hx => of_decide_eq_true (List.all_eq_true.1 h x hx)
/-- A row of tokens by its cells. -/
theorem toks_own {w : World} {g : Nat} {l : List Tk} {vs : List Value} (ho : Own w g (rowCells l vs).toArray 45) (hw : ∀ t ∈ l, t.wf) (hv : vs.length = l.length) (ht : ∀ (i : Nat) t u, l[i]? = some t → vs[i]? = some u → Tx w u t.b) (hl : l.length ≤ 1000000) : Toks w (some ⟨g, 0, none⟩) l.length l := by
  refine ⟨⟨rfl, Nat.le_refl _, by unfold maxLen; omega, hw, fun _ => ⟨g, 0, rfl, fun i t hi => ?_⟩⟩, fun e => by cases e⟩
  have hil := (List.getElem?_eq_some_iff.1 hi).1
  have hvi : vs[i]? = some vs[i] := List.getElem?_eq_getElem (by omega)
  obtain ⟨c1, c2, c3⟩ := rowCells_at l vs hv.symm i t _ hi hvi
  rw [Nat.zero_add]
  exact ⟨ho.cell (by simpa using c1), ho.cell (by simpa using c2), _, ho.cell (by simpa using c3), ht i t _ hi hvi, fun _ _ _ => trivial⟩
theorem utf8_a : utf8 [97] = true := by rw [utf8_cons, if_pos (by decide), utf8_nil]
def wakeL : List Tk := [⟨5, 2, []⟩, ⟨1, 1, []⟩, ⟨4, 0, [97]⟩]
theorem enc_wake : enc wakeL = some [130, 1, 97, 97] := by
  have h1 : item 5 [⟨1, 1, []⟩, ⟨4, 0, [97]⟩] = some (hd 0 1, [⟨4, 0, [97]⟩]) := by
    show itemF _ _ = _
    rw [itemF_cons, if_neg (by decide), if_pos rfl]
    rfl
  have h2 : item 5 [⟨4, 0, [97]⟩] = some (hd 3 1 ++ [97], []) := by
    show itemF _ _ = _
    rw [itemF_cons, if_neg (by decide), if_neg (by decide), if_neg (by decide), if_neg (by decide), if_pos rfl, if_pos utf8_a]
    rfl
  have h3 : item 6 wakeL = some (hd 4 2 ++ [hd 0 1, hd 3 1 ++ [97]].flatten, []) := itemF_list (by decide) (.inl rfl) (by decide) (runs_cons h1 (runs_cons h2 rfl)) (fun h => absurd (show (5 : Int) = 6 from h) (by decide))
  exact enc_of (by decide) h3 (by decide)
set_option maxRecDepth 100000 in
set_option maxHeartbeats 2000000 in
theorem cwakes {T : World → Prop} (F : Cbor T) (w : World) (hT : T w) : Calls Tryd.prog 15 #[] w fun e w' => e = .returned (.bool true) ∧ Below w.heap.size w w' := by
  go_enter Tryd.func15, Tryd.ntmps15
  have hmk := run_mark (P := Tryd.prog) (n := 1) (c := 1) Tryd.underlying25 Tryd.underlying5 (own_new w #[.int .u8 97] 5).rowAt
  have hL : Hid (Below w.heap.size w ((w.alloc (.cells #[.int .u8 97] 5)).freeze ⟨w.heap.size, 1, none⟩ 1) ∧ Txt ((w.alloc (.cells #[.int .u8 97] 5)).freeze ⟨w.heap.size, 1, none⟩ 1) (some ⟨w.heap.size, 0, none⟩) 1 [97]) := lit_txt w [97] (bys_of rfl) (by decide)
  go_upto_region 2 with fail
  clear hmk
  generalize (w.alloc (.cells #[.int .u8 97] 5)).freeze ⟨w.heap.size, 1, none⟩ 1 = W1 at *
  obtain ⟨hB1, hX1⟩ := hL.out
  clear hL
  obtain ⟨g0, Hg0⟩ : ∃ g, Hid (w.heap.size = g) := ⟨_, rfl⟩
  obtain ⟨g1, Hg1⟩ : ∃ g, Hid (W1.heap.size = g) := ⟨_, rfl⟩
  have hrow : Own (W1.alloc (.cells (rowCells wakeL [.slice none 0 0, .slice none 0 0, .slice (some ⟨g0, 0, none⟩) 1 1]).toArray 45)) W1.heap.size (rowCells wakeL [.slice none 0 0, .slice none 0 0, .slice (some ⟨g0, 0, none⟩) 1 1]).toArray 45 := own_new _ _ _
  have hB2 := hB1.trans ((alloc_below W1 (.cells (rowCells wakeL [.slice none 0 0, .slice none 0 0, .slice (some ⟨g0, 0, none⟩) 1 1]).toArray 45)).mono hB1.size)
  rw [Hg0.out] at hX1 ⊢
  have hX2 := hX1.below (alloc_below W1 (.cells (rowCells wakeL [.slice none 0 0, .slice none 0 0, .slice (some ⟨g0, 0, none⟩) 1 1]).toArray 45))
  rw [show W1.alloc (.cells #[.int .i64 5, .int .i64 2, .slice none 0 0, .int .i64 1, .int .i64 1, .slice none 0 0, .int .i64 4, .int .i64 0, .slice (some ⟨g0, 0, none⟩) 1 1] 45) = W1.alloc (.cells (rowCells wakeL [.slice none 0 0, .slice none 0 0, .slice (some ⟨g0, 0, none⟩) 1 1]).toArray 45) from rfl]
  generalize W1.alloc (.cells (rowCells wakeL [.slice none 0 0, .slice none 0 0, .slice (some ⟨g0, 0, none⟩) 1 1]).toArray 45) = W2 at *
  rw [Hg1.out] at hrow ⊢
  have hTk : Toks W2 (some ⟨g1, 0, none⟩) 3 wakeL := toks_own (vs := [.slice none 0 0, .slice none 0 0, .slice (some ⟨g0, 0, none⟩) 1 1]) hrow (by
    intro t ht
    simp only [wakeL, List.mem_cons, List.not_mem_nil, or_false] at ht
    rcases ht with rfl | rfl | rfl <;> exact ⟨⟨by decide, by decide⟩, by decide, by decide⟩) rfl (by
    intro i t u hi hu
    match i with
    | 0 => simp only [wakeL, List.getElem?_cons_zero, Option.some.injEq] at hi hu; subst hi hu; exact ⟨none, 0, rfl, txt_nil _⟩
    | 1 => simp only [wakeL, List.getElem?_cons_succ, List.getElem?_cons_zero, Option.some.injEq] at hi hu; subst hi hu; exact ⟨none, 0, rfl, txt_nil _⟩
    | 2 => simp only [wakeL, List.getElem?_cons_succ, List.getElem?_cons_zero, Option.some.injEq] at hi hu; subst hi hu; exact ⟨_, _, rfl, hX2⟩
    | i + 3 => simp [wakeL] at hi) (by decide)
  have hlight : Light wakeL := ⟨by decide, by decide⟩
  have hT2 := F.keep _ _ hT hB2
  have hE : Hid (Calls Tryd.prog 12 #[.slice (some ⟨g1, 0, none⟩) 3 3] W2 _) := F.encode _ _ wakeL hlight W2 hT2 hTk
  clear hrow hX1 hX2
  go_wp2_with fail
  refine Calls.mono (Hid.out hE) ?_
  rintro e w3 ⟨⟨hn, -⟩ | ⟨x, a3, c3, hx, rfl, hO3, -⟩, hb3⟩
  · rw [enc_wake] at hn; cases hn
  rw [enc_wake] at hx
  obtain rfl := Option.some.inj hx
  clear hx hE
  have hX3 := (txt_same hO3 (bys_of rfl)).2
  have hB3 := hB2.trans (hb3.mono hB2.size)
  have hTk3 := hTk.below hb3
  have hD := show Hid _ from F.decode a3 c3 [130, 1, 97, 97] (by decide) w3 (F.keep _ _ hT hB3) hX3
  go_wp2_with fail
  refine Calls.mono (Hid.out hD) ?_
  rintro e w4 ⟨⟨hn, -⟩ | ⟨k, a4, c4, hk, rfl, hT4⟩, hb4⟩
  · rw [dec_iff.2 enc_wake] at hn; cases hn
  rw [dec_iff.2 enc_wake] at hk
  obtain rfl := Option.some.inj hk
  clear hk hD
  have hB4 := hB3.trans (hb4.mono hB3.size)
  have hX4 := hX3.below hb4
  have hTk4 := hTk3.below hb4
  simp only [show wakeL.length = 3 from rfl]
  have hXb := show Hid _ from txt_cells (w := w4.alloc (.cells #[.int .u8 130, .int .u8 1, .int .u8 97, .int .u8 97] 5)) (l := [130, 1, 97, 97]) (own_new w4 _ _) (bys_of rfl) (by decide)
  have hXa := show Hid _ from hX4.below (alloc_below w4 (.cells #[.int .u8 130, .int .u8 1, .int .u8 97, .int .u8 97] 5))
  have hB4a := hB4.alloc hB4.size (.cells #[.int .u8 130, .int .u8 1, .int .u8 97, .int .u8 97] 5)
  go_wp2_with fail
  refine (bytes_tx (m := [130, 1, 97, 97]) (m' := [130, 1, 97, 97]) hXa.out hXb.out).mono ?_
  rintro e w5 ⟨rfl, hb5⟩
  rw [decide_eq_true rfl]
  have hB5 := hB4a.trans (hb5.mono hB4a.size)
  have hb45 := (alloc_below w4 (.cells #[.int .u8 130, .int .u8 1, .int .u8 97, .int .u8 97] 5)).trans (hb5.mono (by simp))
  go_wp2_with fail
  refine (toks_cmp (l := wakeL) (m := wakeL) (hT4.below hb45) (hTk4.below hb45)).mono ?_
  rintro e w6 ⟨rfl, hb6⟩
  rw [decide_eq_true rfl]
  have hB6 := hB5.trans (hb6.mono hB5.size)
  have hmk := run_mark (P := Tryd.prog) (n := 1) (c := 1) Tryd.underlying25 Tryd.underlying5 (own_new w6 #[.int .u8 97] 5).rowAt
  have hL : Hid (Below w6.heap.size w6 ((w6.alloc (.cells #[.int .u8 97] 5)).freeze ⟨w6.heap.size, 1, none⟩ 1) ∧ Txt ((w6.alloc (.cells #[.int .u8 97] 5)).freeze ⟨w6.heap.size, 1, none⟩ 1) (some ⟨w6.heap.size, 0, none⟩) 1 [97]) := lit_txt w6 [97] (bys_of rfl) (by decide)
  go_wp2_with fail
  have hB7 := hB6.trans (hL.out.1.mono hB6.size)
  refine (F.utf8 _ _ [97] (by decide) _ (F.keep _ _ hT hB7) hL.out.2).mono ?_
  rintro e w7 ⟨rfl, hb7⟩
  rw [utf8_a]
  go_wp2_with fail
  go_ret
  exact ⟨rfl, hB7.trans (hb7.mono hB7.size)⟩
end Go.Proofs.YtaabcllghniaoaaDoor
