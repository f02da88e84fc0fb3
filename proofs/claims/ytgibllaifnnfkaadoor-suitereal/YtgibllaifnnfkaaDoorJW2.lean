/- The walk of the schedule. -/
import Derived.Test.YtgibllaifnnfkaaDoorJW1
import Derived.Test.YtgibllaifnnfkaaDoorKA
import Derived.Deep.RegionHeld3
import Derived.Deep.WholeRow
import Derived.Deep.Cut
namespace Go.Proofs.YtgibllaifnnfkaaDoor.J
open Go.RowKit

/-- 64 words of which the first are those of l. -/
def wordsArr (l : List Int) : Array Value := ((l.map (Value.int .u32)) ++ List.replicate (64 - l.length) (Value.int .u32 0)).toArray
theorem wordsArr_size (l : List Int) (h : l.length ≤ 64) : (wordsArr l).size = 64 := by simp [wordsArr]; omega

/-- word, at a place of a row of bytes. -/
theorem word_at (b off len cap n o : Nat) (f : Nat → Int) (w : World) (hl : 4 ≤ len) (hc : len ≤ cap) (hb : BytesAt w b off n f) (ho : o + 4 ≤ n) :
    Calls Tryd.prog 74 #[.slice (some ⟨b, off + o, none⟩) len cap] w fun e w' => e = .returned (.int .u32 (word4 (f o) (f (o + 1)) (f (o + 2)) (f (o + 3)))) ∧ ∃ n, w' = w.drewN n := by
  have h0 := hb o (by omega)
  have h1 := hb (o + 1) (by omega)
  have h2 := hb (o + 2) (by omega)
  have h3 := hb (o + 3) (by omega)
  simp only [← Nat.add_assoc] at h1 h2 h3
  exact word_any b (off + o) len cap _ _ _ _ w hl hc h0.1 h1.1 h2.1 h3.1 h0.2 h1.2 h2.2 h3.2

theorem wordsArr_new (l : List Int) (h : l.length < 64) : (wordsArr l)[l.length]? = some (.int .u32 0) := by
  simp [wordsArr, List.getElem?_append_right, List.getElem?_replicate]; omega
theorem wordsArr_old (l : List Int) (i : Nat) (h : i < l.length) : (wordsArr l)[i]? = some (.int .u32 (l.getD i 0)) := by
  simp [wordsArr, List.getElem?_append_left, h]
theorem wordsArr_set (l : List Int) (v : Int) (h : l.length < 64) : (wordsArr l).setIfInBounds l.length (.int .u32 v) = wordsArr (l ++ [v]) := by
  obtain ⟨n, hn⟩ : ∃ n, 64 - l.length = n + 1 := ⟨63 - l.length, by omega⟩
  have h2 : 64 - (l.length + 1) = n := by omega
  simp [wordsArr, hn, h2, List.replicate_succ]
theorem setCell_two (w : World) (x : Obj) (A : Array Value) (t : TypeId) (n k : Nat) (v : Value) :
    (((w.alloc x).alloc (.cells A t)).drewN n).setCell ⟨w.heap.size + 1, k, none⟩ v = ((w.alloc x).alloc (.cells (A.setIfInBounds k v) t)).drewN n := by
  have := World.setCell_alloc_new (w := w.alloc x) A t k v
  simp only [World.size_alloc] at this
  have e : ∀ (w : World) a v, (w.drewN n).setCell a v = (w.setCell a v).drewN n := fun _ _ _ => rfl
  rw [e, this]
theorem i64_sub (k : Nat) (c : Int) (h : k ≤ 64) (hc : 0 ≤ c) (hc' : c ≤ 64) : IntKind.i64.wrap ((k : Int) - c) = (k : Int) - c := by
  rw [IntKind.wrap_i64]; omega
theorem at_back (f : Nat → Int) (k c : Nat) (ci : Int) (hci : ci = c) (hk : k ≤ 64) (h : c ≤ k) (hc : 0 < c) : ∃ (i : Nat) (v : Int), IntKind.i64.wrap ((k : Int) - ci) = (i : Int) ∧ (wordsArr (sched f k))[i]? = some (.int .u32 v) ∧ (i : Int) < 64 ∧ (0 : Int) ≤ (i : Int) ∧ Hid (v = (sched f k).getD (k - c) 0) :=
  ⟨k - c, _, by rw [hci, i64_sub k c hk (by omega) (by omega)]; omega, wordsArr_old _ _ (by rw [sched_length]; omega), by omega, by omega, rfl⟩
theorem range_two (w : World) (x : Obj) (A : Array Value) (t : TypeId) (n : Nat) : (((w.alloc x).alloc (.cells A t)).drewN n).rangeAt (w.heap.size + 1) 0 A.toList := fun j v hv => by
  rw [World.cell?_drewN]
  have := cell_of_row ((w.alloc x).alloc (.cells A t)) (w.heap.size + 1) j A t (0, 0) (by have := heap_alloc_last (w.alloc x) (.cells A t); simpa using this)
  rw [Nat.zero_add, this]; simpa using hv
theorem there_first (w : World) (A : Array Value) (y : Obj) (t : TypeId) (n m : Nat) (h : m ≤ A.size) : (((w.alloc (.cells A t)).alloc y).drewN n).there w.heap.size 0 m := fun j hj => by
  have e : ((w.alloc (.cells A t)).alloc y).heap[w.heap.size]? = some (.cells A t) := by
    rw [Below.heap_alloc _ _ _ (by simp)]; exact heap_alloc_last w _
  constructor
  · rw [World.cell?_drewN, cell_of_row _ w.heap.size (0 + j) A t (0, 0) e]
    have : j < A.size := by omega
    simp [this]
  · rw [World.frozen?_drewN]; simp [World.frozen?, e]
theorem wordsArr_one (l : List Int) : (wordsArr l).all (·.oneCell') = true := all_oneCell_toArray fun v hv => by
  rcases List.mem_append.1 hv with h | h
  · obtain ⟨x, _, rfl⟩ := List.mem_map.1 h; rfl
  · obtain ⟨_, rfl⟩ := List.mem_replicate.1 h; rfl
theorem info40 : (Tryd.prog.info? 93).map (·.size) = some 64 := by kernel_rfl
theorem sched_first (f : Nat → Int) (k : Nat) (h : k < 16) : wordsArr (sched f (k + 1)) = (wordsArr (sched f k)).setIfInBounds k (.int .u32 (word4 (f (4 * k)) (f (4 * k + 1)) (f (4 * k + 2)) (f (4 * k + 3)))) := by
  have e := sched_length f k
  have := wordsArr_set (sched f k) (nextW f (sched f k)) (by omega)
  rw [e] at this
  rw [sched, ← this, nextW, e, if_pos h]
theorem sched_later (f : Nat → Int) (k : Nat) (h : 16 ≤ k) (h' : k < 64) : wordsArr (sched f (k + 1)) = (wordsArr (sched f k)).setIfInBounds k (.int .u32 (((sched f k).getD (k - 16) 0 + sig0 ((sched f k).getD (k - 15) 0) + (sched f k).getD (k - 7) 0 + sig1 ((sched f k).getD (k - 2) 0)) % 4294967296)) := by
  have e := sched_length f k
  have := wordsArr_set (sched f k) (nextW f (sched f k)) (by omega)
  rw [e] at this
  rw [sched, ← this, nextW, e, if_neg (by omega)]
theorem below_two (w : World) (x y : Obj) (n : Nat) : Below w.heap.size w (((w.alloc x).alloc y).drewN n) :=
  below_drewN (((Below.refl _ _).alloc (Nat.le_refl _) _).alloc (by simp) _) n

set_option maxRecDepth 100000 in
set_option maxHeartbeats 400000 in
theorem sched_any (b off len cap : Nat) (f : Nat → Int) (w : World) (hl : 64 ≤ len) (hc : len ≤ cap) (hcap : cap ≤ maxLen) (hb : BytesAt w b off 64 f) :
    Calls Tryd.prog 58 #[.slice (some ⟨b, off, none⟩) len cap] w fun e w' => e = .returned (.agg (wordsArr (sched f 64))) ∧ Below w.heap.size w w' := by
  unfold maxLen at hcap
  go_enter Tryd.func58, Tryd.ntmps58
  go_wp2
  go_loopw [10] (fun i wr => ∃ k n : Nat, k ≤ 16 ∧ i = .int .i64 k ∧ wr = ((w.alloc (.cells (wordsArr []) 93)).alloc (.cells (wordsArr (sched f k)) 93)).drewN n) (fun i _ => 16 - (intOf i).toNat)
  case atStart => exact ⟨0, 0, by omega, rfl, rfl⟩
  case round =>
    obtain ⟨k, n, hk, rfl, rfl⟩ := hrel
    by_cases hlt : k < 16
    · go_wp2_with fail
      refine (word_at b off (len - 4 * k) (cap - 4 * k) 64 (4 * k) f _ (by omega) (by omega) (hb.below (below_two _ _ _ _)) (by omega)).mono ?_
      rintro e w' ⟨rfl, m, rfl⟩
      have hg := wordsArr_new (sched f k) (by rw [sched_length]; omega)
      rw [sched_length] at hg
      go_wp2
      go_roundw
      case rel =>
        refine ⟨k + 1, n + m, by omega, by go_num, ?_⟩
        rw [setCell_two, ← sched_first f k hlt]
      case measure => simp [intOf]; omega
    · have hk16 : Hid (k = 16) := show k = 16 by omega
      go_wp2
      clear hlt hk
      go_loopw [5] (fun i wr => ∃ k n : Nat, 16 ≤ k ∧ k ≤ 64 ∧ i = .int .i64 k ∧ wr = ((w.alloc (.cells (wordsArr []) 93)).alloc (.cells (wordsArr (sched f k)) 93)).drewN n) (fun i _ => 64 - (intOf i).toNat)
      case atStart => exact ⟨k, n, by have := hk16.out; omega, by have := hk16.out; omega, by rw [hk16.out]; rfl, rfl⟩
      case round =>
        clear hk16
        obtain ⟨k, m, hk1, hk, rfl, rfl⟩ := hrel
        by_cases hlt : k < 64
        · obtain ⟨i15, v15, w15, g15, p15, q15, H15⟩ := at_back f k 15 15 rfl hk (by omega) (by decide)
          obtain ⟨i2, v2, w2, g2, p2, q2, H2⟩ := at_back f k 2 2 rfl hk (by omega) (by decide)
          obtain ⟨i16, v16, w16, g16, p16, q16, H16⟩ := at_back f k 16 16 rfl hk (by omega) (by decide)
          obtain ⟨i7, v7, w7, g7, p7, q7, H7⟩ := at_back f k 7 7 rfl hk (by omega) (by decide)
          have hg := wordsArr_new (sched f k) (by rw [sched_length]; omega)
          rw [sched_length] at hg
          have hki : (k : Int) < 64 := by omega
          go_wp2
          go_quiet (fail)
          go_wp2_with (go_at_call 59; refine (rot_any _ _ _ (by decide) (by decide)).mono ?_; rintro e w' ⟨rfl, rfl⟩)
          go_region
          go_wp2
          go_roundw
          case rel =>
            refine ⟨k + 1, m + nq + 1, by omega, by omega, by go_num, ?_⟩
            rw [setCell_two, sched_later f k hk1 hlt, ← H16.out, ← H15.out, ← H7.out, ← H2.out]
            rfl
          case measure => simp [intOf]; omega
        · have hk64 : Hid (k = 64) := show k = 64 by omega
          have hi : (Tryd.prog.info? 93).map (·.size) = some (wordsArr (sched f k)).toList.length := by
            rw [info40, Array.length_toList, wordsArr_size _ (by rw [sched_length]; omega)]
          have hi' : (Tryd.prog.info? 93).map (·.size) = some (wordsArr (sched f k)).size := by rw [hi, Array.length_toList]
          have ht := there_first w (wordsArr []) (.cells (wordsArr (sched f k)) 93) 93 (m) (wordsArr (sched f k)).size (by rw [wordsArr_size _ (by rw [sched_length]; omega)]; exact Nat.le_refl _)
          have h1 := wordsArr_one (sched f k)
          go_upto_region 14 with fail
          go_wp2_with (first | refine wpList_load_mid (by rfl) 93 (.tmp 3) (by rfl) (w.heap.size + 1) 0 (by rfl) (wordsArr (sched f k)).toList _ (range_two _ _ _ _ _) Tryd.underlying93 (by rfl) hi ?_ | refine wpList_store_mid (by rfl) 93 (.tmp 2) (.tmp 64) (by rfl) w.heap.size 0 (wordsArr (sched f k)) (by rfl) (by rfl) ht hi' h1 ?_)
          refine bodyPost_ret (v := .agg (wordsArr (sched f k))) ?_ rfl ⟨by rw [hk64.out], ?_⟩
          · exact results_cell Tryd.results58 _ _ w.heap.size 0 (wordsArr (sched f k)).toList _ rfl (World.rangeAt_setCells_same _ _ _ _ (by simpa using ht)) Tryd.underlying93 (by rfl) hi
          · exact Below.setCells _ _ _ _ (Nat.le_refl _) (below_two _ _ _ _)
end Go.Proofs.YtgibllaifnnfkaaDoor.J
