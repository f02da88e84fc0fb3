/- The page's join: slices of bytes side by side. -/
import Derived.Test.YtfkcphbbabaefaaDoorSG1
import Derived.Test.YtfkcphbbabaefaaDoorHK
namespace Go.Proofs.YtfkcphbbabaefaaDoor.H
open Go.RowKit
theorem upTo_bys {ms : List (List Int)} (h : ∀ m ∈ ms, Bys m) (k : Nat) : Bys (upTo ms k) := fun x hx => by
  obtain ⟨m, hm, hxm⟩ := List.mem_flatten.1 hx
  exact h m (List.mem_of_mem_take hm) x hxm
theorem rows_bys {w : World} {a : Option Addr} {len cap : Nat} {ms : List (List Int)} (h : RowsV w a len cap ms) : ∀ m ∈ ms, Bys m := fun m hm => by
  obtain ⟨i, hi⟩ := List.mem_iff_getElem?.1 hm
  have hlt := (List.getElem?_eq_some_iff.1 hi).1
  obtain ⟨b, off, e, hr⟩ := h.2.2.2 (by rw [h.1]; omega)
  obtain ⟨a', cap', -, hv, -⟩ := hr i m hi
  exact hv.2.2.2.1
theorem OwnBytes.none {w : World} {base n cap : Nat} {a : Option Addr} {xs : List Int} (h : OwnBytes w base (.slice a n cap) xs) : a = none → cap = 0 := fun e => by
  obtain ⟨h1, ⟨h2, h3⟩ | ⟨g, c, cur, h2, _⟩⟩ := h
  · simp at h2; exact h2.2.2
  · simp [e] at h2
set_option maxRecDepth 100000 in
set_option maxHeartbeats 2000000 in
theorem join_any (a : Option Addr) (len cap : Nat) (ms : List (List Int)) (w : World) (hR : RowsV w a len cap ms) (hn : ms.flatten.length ≤ 1000000) :
    Calls Tryd.prog 54 #[.slice a len cap] w fun e w' => ∃ a' cap', e = .returned (.slice a' ms.flatten.length cap') ∧ BytesV w' a' ms.flatten.length cap' ms.flatten ∧ (a' = none → cap' = 0) ∧ Below w.heap.size w w' := by
  have hlM : len ≤ maxLen := Nat.le_trans hR.2.1 hR.2.2.1
  have hlm : (len : Int) ≤ 9223372036854775807 := by unfold maxLen at hlM; omega
  have hby := show Hid _ from rows_bys hR
  obtain ⟨l, Hl⟩ : ∃ l, Hid (ms.flatten = l) := ⟨_, rfl⟩
  have hul := fun k => upTo_le ms k
  rw [Hl.out] at hn hul ⊢
  have hul := show Hid _ from hul
  go_enter Tryd.func54, Tryd.ntmps54
  go_wp2_with fail
  go_loopw [3, 4] (fun v i wr => ∃ (k : Nat) (a' : Option Addr) (cap' : Nat), k ≤ len ∧ i = .int .i64 (k : Int) ∧ v = .slice a' (upTo ms k).length cap' ∧ OwnBytes wr w.heap.size (.slice a' (upTo ms k).length cap') (upTo ms k) ∧ Below w.heap.size w wr) (fun _ i _ => len - (intOf i).toNat)
  case atStart => exact ⟨0, none, 0, Nat.zero_le _, rfl, rfl, ownBytes_nil _ _, Below.refl _ _⟩
  case round =>
    obtain ⟨k, a1, c1, hk, rfl, rfl, hO, hb⟩ := hrel
    have bX := upTo_bys hby.out k
    by_cases hkl : k < len
    · have hki : (k : Int) < (len : Int) := by omega
      have hk0 : (0 : Int) ≤ (k : Int) := by omega
      obtain ⟨b, off, m, a', cap', rfl, hm, hc, hv, hnn⟩ := hR.at k hkl
      have hc' : wr.cell? ⟨b, off + k, none⟩ = some (.slice a' m.length cap') := by rw [hb.cell (World.block_lt_of_cell? w _ hc)]; exact hc
      have hus := upTo_succ ms k m hm
      have hul := hul.out (k + 1)
      rw [hus, List.length_append] at hul
      have HU := show Hid _ from hus
      have hv := hv.below hb
      clear hus hc hm
      obtain ⟨X, HX⟩ : ∃ X, Hid (upTo ms k = X) := ⟨_, rfl⟩
      rw [HX.out] at hO hul bX HU ⊢
      go_wp2_with (at_builtin; refine wpList_append_bytes (by rfl) (.tmp 11) (.tmp 15) (by rfl) w.heap.size _ X (by rfl) hO bX a' m.length cap' m (by rfl) hv hnn (by omega) hb.size ?_; intro a3 cap3 w3 hO3 hg3 hV3)
      go_roundw
      case rel =>
        have hb3 : Below w.heap.size w w3 := hb.grown hg3 hb.size (fun g e => hO.base_le e)
        refine ⟨k + 1, a3, cap3, by omega, by go_num, ?_, ?_, hb3⟩
        · rw [HU.out, List.length_append]
        · rw [HU.out, List.length_append]; exact hO3
      case measure => simp [intOf]; omega
    · have hki : ¬ (k : Int) < (len : Int) := by omega
      have hall : upTo ms k = l := (upTo_all ms k (by have := hR.1; omega)).trans Hl.out
      rw [hall] at hO bX
      rw [hall]
      obtain ⟨a', cap', e, hV⟩ := hO.form bX
      obtain ⟨e1, e2, e3⟩ : a1 = a' ∧ l.length = l.length ∧ c1 = cap' := by simpa using e
      subst e1 e3
      go_wp2_with fail
      go_ret
      exact ⟨_, _, rfl, hV, hO.none, hb⟩
end Go.Proofs.YtfkcphbbabaefaaDoor.H
