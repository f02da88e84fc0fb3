/- The library's Compare: which of two texts is ahead. -/
import Derived.Test.YtaabcllghniaoaaDoorBA
import Derived.Test.YtaabcllghniaoaaDoorBO
import Derived.Lib.BytesEntry
import Derived.Laws.Externs
import Derived.Lib.SliceRun
namespace Go.Proofs.YtaabcllghniaoaaDoor
open Go Go.RowKit
theorem cmp_ahead : ∀ {x y : List Int}, Bys x → Bys y → decide (0 ≤ Lib.compareBytes (bytesOf x) (bytesOf y)) = !(ahead x y)
  | [], [], _, _ => rfl
  | [], _ :: _, _, _ => rfl
  | _ :: _, [], _, _ => rfl
  | a :: x, b :: y, hx, hy => by
    have ha := hx a (.head _)
    have hb := hy b (.head _)
    have ih := cmp_ahead (x := x) (y := y) (fun z hz => hx z (.tail _ hz)) (fun z hz => hy z (.tail _ hz))
    have e1 : bytesOf (a :: x) = UInt8.ofNat a.toNat :: bytesOf x := rfl
    have e2 : bytesOf (b :: y) = UInt8.ofNat b.toNat :: bytesOf y := rfl
    have lt : ∀ {p q : Int}, 0 ≤ p → p < 256 → 0 ≤ q → q < 256 → (UInt8.ofNat p.toNat < UInt8.ofNat q.toNat ↔ p < q) := fun {p q} h1 h2 h3 h4 => by
      rw [UInt8.lt_iff_toNat_lt, UInt8.toNat_ofNat', UInt8.toNat_ofNat', Nat.mod_eq_of_lt (show p.toNat < 2 ^ 8 by omega), Nat.mod_eq_of_lt (show q.toNat < 2 ^ 8 by omega)]
      omega
    rw [e1, e2, Lib.compareBytes, ahead]
    by_cases h : a < b
    · rw [if_pos ((lt ha.1 ha.2 hb.1 hb.2).2 h), decide_eq_true h]; rfl
    rw [if_neg (fun k => h ((lt ha.1 ha.2 hb.1 hb.2).1 k))]
    by_cases h' : b < a
    · rw [if_pos ((lt hb.1 hb.2 ha.1 ha.2).2 h'), decide_eq_false h, decide_eq_false (show ¬ a = b by omega)]; rfl
    rw [if_neg (fun k => h' ((lt hb.1 hb.2 ha.1 ha.2).1 k)), ih, decide_eq_false h, decide_eq_true (show a = b by omega)]
    simp
theorem run_bytesOf {P : Program} {w : World} {a : Option Addr} {n c : Nat} {m : List Int} (h : BytesV w a n c m) : (Extern.Bytes.bytesOf (.slice a n c)).run P w = .ok (strOf m) w := by
  obtain ⟨rfl, -, -, -, h5⟩ := h
  cases a with
  | none =>
    have h0 : m = [] := by
      cases m with
      | nil => rfl
      | cons x l => obtain ⟨b, off, e, -⟩ := h5 (by simp); cases e
    subst h0
    rfl
  | some ad =>
    have hl := Lib.run_loadBytesX (P := P) w m ad .empty (fun j x hj => by
      have hjl := (List.getElem?_eq_some_iff.1 hj).1
      obtain ⟨b, off, e, hr⟩ := h5 (by omega)
      simp only [Option.some.injEq] at e
      rw [e, Addr.add_mid]
      exact hr j _ (by rw [u8s, List.getElem?_map, hj]; rfl))
    show (Extern.Bytes.loadBytes ad m.length .empty).run P w = _
    rw [hl]
    congr 1
    apply ByteArray.ext
    show (#[] : Array UInt8) ++ (Lib.bytesOf m).toArray = (bytesOf m).toArray
    rw [Array.empty_append]
    rfl
theorem run_compare {P : Program} {w : World} {a a' : Option Addr} {n n' c c' : Nat} {m m' : List Int} (h : BytesV w a n c m) (h' : BytesV w a' n' c' m') : (Extern.BytealgCompare.compare #[.slice a n c, .slice a' n' c']).run P w = .ok (.int .i64 (Lib.compareBytes (bytesOf m) (bytesOf m'))) w := by
  change Sem.run P (do pure (goInt (Extern.BytealgCompare.cmp (← Extern.Bytes.bytesOf (.slice a n c)) (← Extern.Bytes.bytesOf (.slice a' n' c'))))) w = _
  simp only [Sem.run_bind, run_bytesOf h, run_bytesOf h', Result.andThen, Sem.run_pure]
  rw [Lib.cmp_eq]
  rfl
set_option maxRecDepth 100000 in
theorem compare_is {w : World} {a a' : Option Addr} {n n' c c' : Nat} {m m' : List Int} (h : BytesV w a n c m) (h' : BytesV w a' n' c' m') : Calls Tryd.prog 38 #[.slice a n c, .slice a' n' c'] w fun e w' => (∃ z : Int, e = .returned (.int .i64 z) ∧ decide (0 ≤ z) = !(ahead m m')) ∧ w' = w := by
  have hr := run_compare (P := Tryd.prog) h h'
  have hz := cmp_ahead h.2.2.2.1 h'.2.2.2.1
  generalize Lib.compareBytes (bytesOf m) (bytesOf m') = z at *
  go_enter Tryd.func38, Tryd.ntmps38
  go_wp2
  rw [run_callFunc_extern Tryd.func42 (by kernel_rfl) (by kernel_rfl) (by kernel_rfl) (e := Extern.BytealgCompare.compare) (by kernel_rfl), hr]
  simp only [Result.andThen]
  rw [Oper.upon_value]
  go_wp2
  go_ret
  exact ⟨⟨z, rfl, hz⟩, rfl⟩
set_option maxRecDepth 100000 in
/-- A text of its own that holds the same. -/
theorem clone_is {w : World} {a : Option Addr} {cap : Nat} {m : List Int} (hm : Txt w a cap m) (hl : m.length ≤ 1000000) : Calls Tryd.prog 33 #[.slice a m.length cap] w fun e w' => ∃ a' c', e = .returned (.slice a' m.length c') ∧ OwnBytes w' w.heap.size (.slice a' m.length c') m ∧ Below w.heap.size w w' := by
  have hb : Bys m := hm.1.2.2.2.1
  cases a with
  | none =>
    obtain rfl := hm.2 rfl
    obtain rfl : m = [] := by
      cases m with
      | nil => rfl
      | cons x l => obtain ⟨b, off, e, -⟩ := hm.1.2.2.2.2 (by simp); cases e
    have hnil : ∀ W, (binOp .eql 25 (.slice none 0 0) (.slice none 0 0)).run Tryd.prog W = .ok (.bool true) W := fun W => Lib.run_eql_slice_nil W _ _ none 0 0 0 0 Tryd.underlying25
    go_enter Tryd.func33, Tryd.ntmps33
    go_wp2_with fail
    go_ret
    exact ⟨none, 0, rfl, ownBytes_nil _ _, Below.refl _ _⟩
  | some ad =>
    have hnil : ∀ W, (binOp .eql 25 (.slice (some ad) m.length cap) (.slice none 0 0)).run Tryd.prog W = .ok (.bool false) W := fun W => Lib.run_eql_slice_nil W _ _ (some ad) m.length cap 0 0 Tryd.underlying25
    go_enter Tryd.func33, Tryd.ntmps33
    have hO0 : OwnBytes (w.alloc (.cells #[] 5)) w.heap.size (.slice (some ⟨w.heap.size, 0, none⟩) 0 0) [] := ⟨rfl, .inr ⟨w.heap.size, 0, #[], rfl, Nat.le_refl _, own_new w _ _, Nat.le_refl _, by decide, rfl, rfl⟩⟩
    have hm1 := hm.below (alloc_below w (.cells #[] 5))
    go_wp2_with (at_builtin; refine wpList_append_bytes (by rfl) (.tmp 5) (.tmp 6) (by rfl) w.heap.size _ [] (by rfl) hO0 (fun x hx => by cases hx) (some ad) m.length cap m (by rfl) hm1.1 hm1.2 (by simp; omega) (by simp) ?_; intro a1 cap1 w1 hO1 hg1 hV1; simp only [List.length_nil, Nat.zero_add, List.nil_append] at hO1 hV1 ⊢)
    go_ret
    exact ⟨a1, cap1, rfl, hO1, ((Below.refl _ _).alloc (Nat.le_refl _) _).grown hg1 (by simp) (fun g e => by simp [Value.ownBlock] at e; omega)⟩
end Go.Proofs.YtaabcllghniaoaaDoor
