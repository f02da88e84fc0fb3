/- The program's writer: bytes put, heads put. -/
import Derived.Test.YtaabcllghniaoaaDoorWA
import Derived.Test.YtaabcllghniaoaaDoorHP
import Derived.Test.YtaabcllghniaoaaDoorCE
namespace Go.Proofs.YtaabcllghniaoaaDoor
open Go Go.RowKit
/-- The writer: what is left of the row, the bytes of what has been. -/
structure Wr (w0 w : World) (gw : Nat) (a : Option Addr) (cap : Nat) (L : List Tk) (v : Value) (x : List Int) : Prop where
  below : Below w0.heap.size w0 w
  own : Own w gw #[.slice a L.length cap, v] 53
  lo : w0.heap.size ≤ gw
  toks : Toks w0 a cap L
  bytes : OwnBytes w w0.heap.size v x
  ne : ∀ g ∈ blks v, g ≠ gw
  bys : Bys x
  len : x.length ≤ 32768
theorem own_two {w : World} {b : Nat} {x y : Value} {t : TypeId} (h : Own w b #[x, y] t) : w.cell? ⟨b, 0, none⟩ = some x ∧ w.cell? ⟨b, 1, none⟩ = some y := ⟨h.cell rfl, h.cell rfl⟩
theorem own_block {w w' : World} {b : Nat} {A : Array Value} {t : TypeId} (h : Own w b A t) (e : w'.heap[b]? = w.heap[b]?) : Own w' b A t := e.trans h
/-- Its bytes are a text. -/
theorem Wr.text {w0 w : World} {gw cap : Nat} {a : Option Addr} {L : List Tk} {v : Value} {x : List Int} (h : Wr w0 w gw a cap L v x) : ∃ b c, v = .slice b x.length c ∧ Txt w b c x := by
  obtain ⟨b, c, rfl, hV⟩ := h.bytes.form h.bys
  exact ⟨b, c, rfl, hV, own_none h.bytes⟩
/-- What the writer stores in its own block. -/
theorem Wr.stored {w0 w w' : World} {gw cap : Nat} {a : Option Addr} {L : List Tk} {v v' : Value} {x y : List Int} (h : Wr w0 w gw a cap L v x) (hO : OwnBytes w' w0.heap.size v' y) (hB : Below w0.heap.size w w') (hG : Gr w w' gw v x.length v') (hgw : w'.heap[gw]? = w.heap[gw]?) (hy : Bys y) (hl : y.length ≤ 32768) (hxy : x.length ≤ y.length) :
    Wr w0 (w'.setCell ⟨gw, 1, none⟩ v') gw a cap L v' y ∧ Gr w (w'.setCell ⟨gw, 1, none⟩ v') gw v x.length v' := by
  have hO' := own_block h.own hgw
  have hne : ∀ g ∈ blks v', g ≠ gw := fun g hg e => by
    rcases hG.2.2 g hg with h1 | h1
    · exact h.ne g h1 e
    · have := h.own.lt; omega
  have hg := grown_setCell w' gw 1 v'
  refine ⟨⟨below_grown (h.below.trans hB) hg (Nat.le_trans h.below.size hG.1) h.lo, ?_, h.lo, h.toks, own_apart hO hg hne, hne, hy, hl⟩, hG.trans (gr_of hg) hxy⟩
  have := hO'.setCell 1 v'
  exact this
set_option maxRecDepth 100000 in
set_option maxHeartbeats 1000000 in
theorem wput_is {w0 w : World} {gw cap : Nat} {a : Option Addr} {L : List Tk} {v : Value} {x : List Int} (h : Wr w0 w gw a cap L v x) {sa : Option Addr} {c : Nat} {m : List Int} (hm : Txt w sa c m) : Calls Tryd.prog 30 #[.pointer (some ⟨gw, 0, none⟩), .slice sa m.length c] w fun e w' =>
    (x.length + m.length ≤ 32768 ∧ e = .returned (.bool true) ∧ ∃ v', Wr w0 w' gw a cap L v' (x ++ m) ∧ Gr w w' gw v x.length v') ∨ (32768 < x.length + m.length ∧ e = .returned (.bool false) ∧ w' = w) := by
  obtain ⟨b, cb, rfl, hX⟩ := h.text
  have hxl := h.len
  have hml : (m.length : Int) ≤ 9223372036854775807 := by have h3 := Nat.le_trans hm.1.2.1 hm.1.2.2.1; unfold maxLen at h3; omega
  obtain ⟨c0, c1⟩ := own_two h.own
  by_cases hbig : 32768 < x.length + m.length
  · have hbig' : (32768 : Int) - (x.length : Int) < (m.length : Int) := by omega
    go_enter Tryd.func30, Tryd.ntmps30
    go_wp2_with fail
    go_ret
    exact .inr ⟨hbig, rfl, rfl⟩
  · have hbig' : ¬ (32768 : Int) - (x.length : Int) < (m.length : Int) := by omega
    have hby : Bys (x ++ m) := fun y hy => (List.mem_append.1 hy).elim (h.bys y) (hm.1.2.2.2.1 y)
    have hh := show Hid _ from h
    go_enter Tryd.func30, Tryd.ntmps30
    go_wp2_with (at_builtin; refine wpList_appK (by rfl) (.tmp 18) (.tmp 19) (by rfl) w0.heap.size (by rfl) hh.out.bytes ⟨sa, c, by rfl, hm⟩ (by omega) hh.out.below.size ?_; intro v' w1 hO1 hB1 hK1; obtain ⟨b', c', rfl, -⟩ := hO1.form hby; obtain ⟨hG1, hK2⟩ := hK1 gw hh.out.ne; replace hK2 := hK2 hh.out.own.lt; have hfz := (own_block hh.out.own hK2).frozen 1; obtain ⟨c0', c1'⟩ := own_two (own_block hh.out.own hK2))
    go_ret
    obtain ⟨h1, h2⟩ := hh.out.stored hO1 hB1 hG1 hK2 hby (by rw [List.length_append]; omega) (by rw [List.length_append]; omega)
    rw [List.length_append] at h1 h2
    exact ⟨by omega, rfl, _, h1, h2⟩
/-- A writer stays where memory stays. -/
theorem Wr.keep {w0 w w' : World} {gw cap : Nat} {a : Option Addr} {L : List Tk} {v : Value} {x : List Int} (h : Wr w0 w gw a cap L v x) (hB : Below w.heap.size w w') : Wr w0 w' gw a cap L v x :=
  ⟨h.below.trans (hB.mono h.below.size), h.own.below hB h.own.lt, h.lo, h.toks, h.bytes.below hB, h.ne, h.bys, h.len⟩
set_option maxRecDepth 100000 in
set_option maxHeartbeats 1000000 in
theorem whead_is {w0 w : World} {gw cap : Nat} {a : Option Addr} {L : List Tk} {v : Value} {x : List Int} (h : Wr w0 w gw a cap L v x) (mj : Nat) (hmj : mj ≤ 7) (k : Int) (hk : k - 1 = (mj : Int)) (n : Nat) (hn : n < 9223372036854775808) : Calls Tryd.prog 29 #[.pointer (some ⟨gw, 0, none⟩), .int .i64 k, .int .i64 n] w fun e w' =>
    (x.length + (hd mj n).length ≤ 32768 ∧ e = .returned (.bool true) ∧ ∃ v', Wr w0 w' gw a cap L v' (x ++ hd mj n) ∧ Gr w w' gw v x.length v') ∨ (32768 < x.length + (hd mj n).length ∧ e = .returned (.bool false) ∧ Below w0.heap.size w0 w') := by
  have hput := show Hid _ from hed.put mj n hmj hn none 0 [] (by decide) w trivial (txt_nil w)
  have hkr : k - 1 ≤ 7 := by omega
  have hk0 : 0 ≤ k - 1 := by omega
  go_enter Tryd.func29, Tryd.ntmps29
  go_wp2_with fail
  refine Calls.mono (Hid.out hput) ?_
  rintro e w1 ⟨u, rfl, hO, hB⟩
  rw [List.nil_append] at hO
  obtain ⟨b, c, rfl, hV⟩ := hO.form (hd_bytes hmj)
  have hm : Txt w1 b c (hd mj n) := ⟨hV, own_none hO⟩
  have hw := show Hid _ from wput_is (h.keep hB) hm
  have hG : Hid (Gr w w1 gw v x.length v) := gr_below hB
  have hB0 : Hid (Below w0.heap.size w0 w1) := (h.keep hB).below
  clear hput
  go_wp2_with fail
  refine Calls.mono (Hid.out hw) ?_
  rintro e w2 (⟨h1, rfl, v', h2, h3⟩ | ⟨h1, rfl, rfl⟩)
  · go_wp2_with fail
    go_ret
    exact .inl ⟨h1, rfl, v', h2, hG.out.trans h3 (Nat.le_refl _)⟩
  · go_wp2_with fail
    go_ret
    exact .inr ⟨h1, rfl, hB0.out⟩
set_option maxRecDepth 100000 in
set_option maxHeartbeats 1000000 in
theorem whead_no {w0 w : World} {gw : Nat} (hB0 : Below w0.heap.size w0 w) (k n : Int) (hk : -9223372036854775808 ≤ k - 1) (hk7 : k - 1 < 9223372036854775808) (hn : n < 0) : Calls Tryd.prog 29 #[.pointer (some ⟨gw, 0, none⟩), .int .i64 k, .int .i64 n] w fun e w' => e = .returned (.bool false) ∧ Below w0.heap.size w0 w' := by
  have hput := show Hid _ from hed.put_no (k - 1) n (by omega) none 0 [] (by decide) w trivial (txt_nil w)
  clear hn
  go_enter Tryd.func29, Tryd.ntmps29
  go_wp2_with fail
  refine Calls.mono (Hid.out hput) ?_
  rintro e w1 ⟨b, c, rfl, hB⟩
  go_wp2_with fail
  go_ret
  exact ⟨rfl, hB0.trans (hB.mono hB0.size)⟩
end Go.Proofs.YtaabcllghniaoaaDoor
