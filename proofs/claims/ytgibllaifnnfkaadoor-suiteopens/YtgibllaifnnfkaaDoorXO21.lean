/- Of the texts JW2, JW3, JW4, JM2: what the card of this claim reaches. -/
import Derived.Test.YtgibllaifnnfkaaDoorXO20
import Derived.Test.YtgibllaifnnfkaaDoorXO1
import Derived.Deep.RegionHeld3
import Derived.Deep.WholeRow
import Derived.Deep.Cut
namespace Go.Proofs.YtgibllaifnnfkaaDoor.J
open Go.RowKit
def wordsArr (l : List Int) : Array Value := ((l.map (Value.int .u32)) ++ List.replicate (64 - l.length) (Value.int .u32 0)).toArray
theorem wordsArr_size (l : List Int) (h : l.length ≤ 64) : (wordsArr l).size = 64 := by simp [wordsArr]; omega
theorem word_at (b off len cap n o : Nat) (f : Nat → Int) (w : World) (hl : 4 ≤ len) (hc : len ≤ cap) (hb : BytesAt w b off n f) (ho : o + 4 ≤ n) :
    Calls Tryd.prog 74 #[.slice (some ⟨b, off + o, none⟩) len cap] w fun e w' => e = .returned (.int .u32 (word4 (f o) (f (o + 1)) (f (o + 2)) (f (o + 3)))) ∧ ∃ n, w' = w.drewN n := by
  have h0 := hb o (by omega)
  have h1 := hb (o + 1) (by omega)
  have h2 := hb (o + 2) (by omega)
  have h3 := hb (o + 3) (by omega)
  simp only [← Nat.add_assoc] at h1 h2 h3
  exact word_any b (off + o) len cap _ _ _ _ w hl hc h0.1 h1.1 h2.1 h3.1 h0.2 h1.2 h2.2 h3.2
theorem wordsArr_new (l : List Int) (h : l.length < 64) : (wordsArr l)[l.length]? = some (.int .u32 0) := by
  simp [wordsArr, List.getElem?_append_right, List.getElem?_replicate]; omega
theorem wordsArr_old (l : List Int) (i : Nat) (h : i < l.length) : (wordsArr l)[i]? = some (.int .u32 (l.getD i 0)) := by
  simp [wordsArr, List.getElem?_append_left, h]
theorem wordsArr_set (l : List Int) (v : Int) (h : l.length < 64) : (wordsArr l).setIfInBounds l.length (.int .u32 v) = wordsArr (l ++ [v]) := by
  obtain ⟨n, hn⟩ : ∃ n, 64 - l.length = n + 1 := ⟨63 - l.length, by omega⟩
  have h2 : 64 - (l.length + 1) = n := by omega
  simp [wordsArr, hn, h2, List.replicate_succ]
theorem setCell_two (w : World) (x : Obj) (A : Array Value) (t : TypeId) (n k : Nat) (v : Value) :
    (((w.alloc x).alloc (.cells A t)).drewN n).setCell ⟨w.heap.size + 1, k, none⟩ v = ((w.alloc x).alloc (.cells (A.setIfInBounds k v) t)).drewN n := by
  have := World.setCell_alloc_new (w := w.alloc x) A t k v
  simp only [World.size_alloc] at this
  have e : ∀ (w : World) a v, (w.drewN n).setCell a v = (w.setCell a v).drewN n := fun _ _ _ => rfl
  rw [e, this]
theorem i64_sub (k : Nat) (c : Int) (h : k ≤ 64) (hc : 0 ≤ c) (hc' : c ≤ 64) : IntKind.i64.wrap ((k : Int) - c) = (k : Int) - c := by
  rw [IntKind.wrap_i64]; omega
theorem at_back (f : Nat → Int) (k c : Nat) (ci : Int) (hci : ci = c) (hk : k ≤ 64) (h : c ≤ k) (hc : 0 < c) : ∃ (i : Nat) (v : Int), IntKind.i64.wrap ((k : Int) - ci) = (i : Int) ∧ (wordsArr (sched f k))[i]? = some (.int .u32 v) ∧ (i : Int) < 64 ∧ (0 : Int) ≤ (i : Int) ∧ Hid (v = (sched f k).getD (k - c) 0) :=
  ⟨k - c, _, by rw [hci, i64_sub k c hk (by omega) (by omega)]; omega, wordsArr_old _ _ (by rw [sched_length]; omega), by omega, by omega, rfl⟩
theorem range_two (w : World) (x : Obj) (A : Array Value) (t : TypeId) (n : Nat) : (((w.alloc x).alloc (.cells A t)).drewN n).rangeAt (w.heap.size + 1) 0 A.toList := fun j v hv => by
  rw [World.cell?_drewN]
  have := cell_of_row ((w.alloc x).alloc (.cells A t)) (w.heap.size + 1) j A t (0, 0) (by have := heap_alloc_last (w.alloc x) (.cells A t); simpa using this)
  rw [Nat.zero_add, this]; simpa using hv
theorem there_first (w : World) (A : Array Value) (y : Obj) (t : TypeId) (n m : Nat) (h : m ≤ A.size) : (((w.alloc (.cells A t)).alloc y).drewN n).there w.heap.size 0 m := fun j hj => by
  have e : ((w.alloc (.cells A t)).alloc y).heap[w.heap.size]? = some (.cells A t) := by
    rw [Below.heap_alloc _ _ _ (by simp)]; exact heap_alloc_last w _
  constructor
  · rw [World.cell?_drewN, cell_of_row _ w.heap.size (0 + j) A t (0, 0) e]
    have : j < A.size := by omega
    simp [this]
  · rw [World.frozen?_drewN]; simp [World.frozen?, e]
theorem wordsArr_one (l : List Int) : (wordsArr l).all (·.oneCell') = true := all_oneCell_toArray fun v hv => by
  rcases List.mem_append.1 hv with h | h
  · obtain ⟨x, _, rfl⟩ := List.mem_map.1 h; rfl
  · obtain ⟨_, rfl⟩ := List.mem_replicate.1 h; rfl
theorem info40 : (Tryd.prog.info? 93).map (·.size) = some 64 := by kernel_rfl
theorem sched_first (f : Nat → Int) (k : Nat) (h : k < 16) : wordsArr (sched f (k + 1)) = (wordsArr (sched f k)).setIfInBounds k (.int .u32 (word4 (f (4 * k)) (f (4 * k + 1)) (f (4 * k + 2)) (f (4 * k + 3)))) := by
  have e := sched_length f k
  have := wordsArr_set (sched f k) (nextW f (sched f k)) (by omega)
  rw [e] at this
  rw [sched, ← this, nextW, e, if_pos h]
theorem sched_later (f : Nat → Int) (k : Nat) (h : 16 ≤ k) (h' : k < 64) : wordsArr (sched f (k + 1)) = (wordsArr (sched f k)).setIfInBounds k (.int .u32 (((sched f k).getD (k - 16) 0 + sig0 ((sched f k).getD (k - 15) 0) + (sched f k).getD (k - 7) 0 + sig1 ((sched f k).getD (k - 2) 0)) % 4294967296)) := by
  have e := sched_length f k
  have := wordsArr_set (sched f k) (nextW f (sched f k)) (by omega)
  rw [e] at this
  rw [sched, ← this, nextW, e, if_neg (by omega)]
theorem below_two (w : World) (x y : Obj) (n : Nat) : Below w.heap.size w (((w.alloc x).alloc y).drewN n) :=
  below_drewN (((Below.refl _ _).alloc (Nat.le_refl _) _).alloc (by simp) _) n
set_option maxRecDepth 100000 in
set_option maxHeartbeats 400000 in
theorem sched_any (b off len cap : Nat) (f : Nat → Int) (w : World) (hl : 64 ≤ len) (hc : len ≤ cap) (hcap : cap ≤ maxLen) (hb : BytesAt w b off 64 f) :
    Calls Tryd.prog 58 #[.slice (some ⟨b, off, none⟩) len cap] w fun e w' => e = .returned (.agg (wordsArr (sched f 64))) ∧ Below w.heap.size w w' := by
  unfold maxLen at hcap
  go_enter Tryd.func58, Tryd.ntmps58
  go_wp2
  go_loopw [10] (fun i wr => ∃ k n : Nat, k ≤ 16 ∧ i = .int .i64 k ∧ wr = ((w.alloc (.cells (wordsArr []) 93)).alloc (.cells (wordsArr (sched f k)) 93)).drewN n) (fun i _ => 16 - (intOf i).toNat)
  case atStart => exact ⟨0, 0, by omega, rfl, rfl⟩
  case round =>
    obtain ⟨k, n, hk, rfl, rfl⟩ := hrel
    by_cases hlt : k < 16
    · go_wp2_with fail
      refine (word_at b off (len - 4 * k) (cap - 4 * k) 64 (4 * k) f _ (by omega) (by omega) (hb.below (below_two _ _ _ _)) (by omega)).mono ?_
      rintro e w' ⟨rfl, m, rfl⟩
      have hg := wordsArr_new (sched f k) (by rw [sched_length]; omega)
      rw [sched_length] at hg
      go_wp2
      go_roundw
      case rel =>
        refine ⟨k + 1, n + m, by omega, by go_num, ?_⟩
        rw [setCell_two, ← sched_first f k hlt]
      case measure => simp [intOf]; omega
    · have hk16 : Hid (k = 16) := show k = 16 by omega
      go_wp2
      clear hlt hk
      go_loopw [5] (fun i wr => ∃ k n : Nat, 16 ≤ k ∧ k ≤ 64 ∧ i = .int .i64 k ∧ wr = ((w.alloc (.cells (wordsArr []) 93)).alloc (.cells (wordsArr (sched f k)) 93)).drewN n) (fun i _ => 64 - (intOf i).toNat)
      case atStart => exact ⟨k, n, by have := hk16.out; omega, by have := hk16.out; omega, by rw [hk16.out]; rfl, rfl⟩
      case round =>
        clear hk16
        obtain ⟨k, m, hk1, hk, rfl, rfl⟩ := hrel
        by_cases hlt : k < 64
        · obtain ⟨i15, v15, w15, g15, p15, q15, H15⟩ := at_back f k 15 15 rfl hk (by omega) (by decide)
          obtain ⟨i2, v2, w2, g2, p2, q2, H2⟩ := at_back f k 2 2 rfl hk (by omega) (by decide)
          obtain ⟨i16, v16, w16, g16, p16, q16, H16⟩ := at_back f k 16 16 rfl hk (by omega) (by decide)
          obtain ⟨i7, v7, w7, g7, p7, q7, H7⟩ := at_back f k 7 7 rfl hk (by omega) (by decide)
          have hg := wordsArr_new (sched f k) (by rw [sched_length]; omega)
          rw [sched_length] at hg
          have hki : (k : Int) < 64 := by omega
          go_wp2
          go_quiet (fail)
          go_wp2_with (go_at_call 59; refine (rot_any _ _ _ (by decide) (by decide)).mono ?_; rintro e w' ⟨rfl, rfl⟩)
          go_region
          go_wp2
          go_roundw
          case rel =>
            refine ⟨k + 1, m + nq + 1, by omega, by omega, by go_num, ?_⟩
            rw [setCell_two, sched_later f k hk1 hlt, ← H16.out, ← H15.out, ← H7.out, ← H2.out]
            rfl
          case measure => simp [intOf]; omega
        · have hk64 : Hid (k = 64) := show k = 64 by omega
          have hi : (Tryd.prog.info? 93).map (·.size) = some (wordsArr (sched f k)).toList.length := by
            rw [info40, Array.length_toList, wordsArr_size _ (by rw [sched_length]; omega)]
          have hi' : (Tryd.prog.info? 93).map (·.size) = some (wordsArr (sched f k)).size := by rw [hi, Array.length_toList]
          have ht := there_first w (wordsArr []) (.cells (wordsArr (sched f k)) 93) 93 (m) (wordsArr (sched f k)).size (by rw [wordsArr_size _ (by rw [sched_length]; omega)]; exact Nat.le_refl _)
          have h1 := wordsArr_one (sched f k)
          go_upto_region 14 with fail
          go_wp2_with (first | refine wpList_load_mid (by rfl) 93 (.tmp 3) (by rfl) (w.heap.size + 1) 0 (by rfl) (wordsArr (sched f k)).toList _ (range_two _ _ _ _ _) Tryd.underlying93 (by rfl) hi ?_ | refine wpList_store_mid (by rfl) 93 (.tmp 2) (.tmp 64) (by rfl) w.heap.size 0 (wordsArr (sched f k)) (by rfl) (by rfl) ht hi' h1 ?_)
          refine bodyPost_ret (v := .agg (wordsArr (sched f k))) ?_ rfl ⟨by rw [hk64.out], ?_⟩
          · exact results_cell Tryd.results58 _ _ w.heap.size 0 (wordsArr (sched f k)).toList _ rfl (World.rangeAt_setCells_same _ _ _ _ (by simpa using ht)) Tryd.underlying93 (by rfl) hi
          · exact Below.setCells _ _ _ _ (Nat.le_refl _) (below_two _ _ _ _)
end Go.Proofs.YtgibllaifnnfkaaDoor.J
namespace Go.Proofs.YtgibllaifnnfkaaDoor.J
open Go.RowKit
def TabK (w : World) : Prop := 5 < w.heap.size ∧ ∀ i, i < 64 → w.cell? ⟨5, i, none⟩ = some (.int .u32 (kays.getD i 0))
theorem TabK.below {w w' : World} (h : TabK w) (hB : Below w.heap.size w w') : TabK w' :=
  ⟨Nat.lt_of_lt_of_le h.1 hB.size, fun i hi => by rw [hB.cell (p := ⟨5, i, none⟩) h.1]; exact h.2 i hi⟩
theorem stArr_one (s : St) : (stArr s).all (·.oneCell') = true := by simp [stArr, Value.oneCell']
theorem info42 : (Tryd.prog.info? 47).map (·.size) = some 8 := by kernel_rfl
theorem info39 : (Tryd.prog.info? 46).map (·.size) = some 1 := by kernel_rfl
set_option maxRecDepth 100000 in
set_option maxHeartbeats 400000 in
theorem mix_any (b off len cap : Nat) (f : Nat → Int) (s : St) (w : World) (hl : 64 ≤ len) (hc : len ≤ cap) (hcap : cap ≤ maxLen) (hb : BytesAt w b off 64 f) (hT : TabK w) :
    Calls Tryd.prog 41 #[s.val, .slice (some ⟨b, off, none⟩) len cap] w fun e w' => e = .returned (mixS s f).val ∧ Below w.heap.size w w' := by
  unfold St.val stArr
  go_enter Tryd.func41, Tryd.ntmps41
  go_wp2_with fail
  refine (sched_any b off len cap f _ hl hc hcap (hb.below (((Below.refl _ _).alloc (Nat.le_refl _) _).alloc (by simp) _))).mono ?_
  rintro e w1 ⟨rfl, hB⟩
  have ws64 := wordsArr_size (sched f 64) (by rw [sched_length]; exact Nat.le_refl _)
  have hi' : (Tryd.prog.info? 93).map (·.size) = some (wordsArr (sched f 64)).size := by rw [info40, ws64]
  have h1 := wordsArr_one (sched f 64)
  have hws : ∀ i, i < 64 → (wordsArr (sched f 64))[i]? = some (.int .u32 ((sched f 64).getD i 0)) := fun i hi => wordsArr_old _ _ (by rw [sched_length]; exact hi)
  have o0 := ((own_new w _ 47).alloc _).below hB (by simp; omega)
  have o1 := (own_new (w.alloc _) _ 47).below hB (by simp)
  rw [World.size_alloc] at o1
  have hb1 : Below w.heap.size w w1 := (((Below.refl _ _).alloc (Nat.le_refl _) _).alloc (by simp) _).trans (hB.mono (by simp; omega))
  generalize wordsArr (sched f 64) = ws at *
  clear hB
  go_wp2_with (refine wpList_store_new (by rfl) 93 (.tmp 5) (.tmp 23) (by rfl) _ ws (by rfl) (by rfl) hi' (by rw [ws64]; rfl) h1 (by rfl) ?_)
  have oM := own_new w1 ws 93
  have o0 := o0.alloc (.cells ws 93)
  have o1 := o1.alloc (.cells ws 93)
  have hb2 := hb1.alloc hb1.size (.cells ws 93)
  generalize w1.alloc (.cells ws 93) = W at *
  generalize w1.heap.size = M at *
  clear hb1
  have hTW := hT.below hb2
  have c0 := o0.cell (i := 0) rfl
  have c1 := o0.cell (i := 1) rfl
  have c2 := o0.cell (i := 2) rfl
  have c3 := o0.cell (i := 3) rfl
  have c4 := o0.cell (i := 4) rfl
  have c5 := o0.cell (i := 5) rfl
  have c6 := o0.cell (i := 6) rfl
  have c7 := o0.cell (i := 7) rfl
  go_quiet (fail)
  rename Nat => n1
  go_wp2
  go_quiet (fail)
  rename Nat => n2
  go_upto_region 4 with fail
  go_wp2_with (refine wpList_load_own (by rfl) 93 (.tmp 5) (by rfl) M (by rfl) ws _ ((oM.drewN _).drewN _) Tryd.underlying93 (by rfl) hi' ?_)
  obtain ⟨wf, hwf⟩ : ∃ wf : Nat → Int, wf = fun i => (sched f 64).getD i 0 := ⟨_, rfl⟩
  have hws : ∀ i, i < 64 → ws[i]? = some (.int .u32 (wf i)) := fun i hi => by rw [hwf]; exact hws i hi
  have Hwf : Hid (wf = fun i => (sched f 64).getD i 0) := hwf
  clear hwf
  go_loop [6, 7, 8, 9, 10, 11, 12, 13, 41] (fun ra rb rc rd re rf rg rh i => ∃ (k : Nat) (r : St), k ≤ 64 ∧ Hid (r = rnds wf s k) ∧ i = .int .i64 k ∧ ra = .int .u32 r.a ∧ rb = .int .u32 r.b ∧ rc = .int .u32 r.c ∧ rd = .int .u32 r.d ∧ re = .int .u32 r.e ∧ rf = .int .u32 r.f ∧ rg = .int .u32 r.g ∧ rh = .int .u32 r.h) (fun _ _ _ _ _ _ _ _ i => 64 - (intOf i).toNat)
  case atStart => exact ⟨0, s, by omega, rfl, rfl, rfl, rfl, rfl, rfl, rfl, rfl, rfl, rfl⟩
  case round =>
    obtain ⟨k, r, hk, Hr, rfl, rfl, rfl, rfl, rfl, rfl, rfl, rfl, rfl⟩ := hrel
    by_cases hlt : k < 64
    · have hki : (k : Int) < 64 := by omega
      have hk0 : (0 : Int) ≤ (k : Int) := by omega
      have hk64 : k < ws.size := by omega
      have hw := hws k hlt
      have hidx : ∀ w', (Instr.index 93 (.agg ws) (.int .i64 (k : Int))).run Tryd.prog w' = .ok (.int .u32 (wf k)) w' := fun w' => run_index_arr Tryd.underlying93 Tryd.underlying46 info39 ws k _ hlt hw w'
      have hg := hTW.2 k hlt
      have Hst : Hid (rnds wf s (k + 1) = rnd (kays.getD k 0) (wf k) (rnds wf s k)) := rfl
      generalize kays.getD k 0 = kk at *
      generalize wf k = wk at *
      go_wp2_with (go_at_call 59; refine (rot_any _ _ _ (by decide) (by decide)).mono ?_; rintro e w' ⟨rfl, rfl⟩)
      go_roundw
      case rel => 
        exact ⟨k + 1, rnd kk wk r, by omega, by rw [Hr.out]; exact Hst.out.symm, by go_num, rfl, rfl, rfl, rfl, rfl, rfl, rfl, rfl⟩
      case measure => simp [intOf]; omega
    · have Hk : Hid (k = 64) := show k = 64 by omega
      go_upto_region 16 with fail
      go_wp2_with (refine wpList_store_own (by rfl) 47 (.tmp 4) (.tmp 139) (by rfl) (w.heap.size + 1) 0 (stArr (addSt s r)) (by rfl) (by rfl) (o1.drewN _) (Nat.le_refl _) info42 (stArr_one _) (by rfl) ?_)
      refine bodyPost_ret (results_own Tryd.results41 _ _ (w.heap.size + 1) (stArr (addSt s r)) _ rfl (own_setCells (o1.drewN _) rfl) Tryd.underlying47 rfl info42) rfl ⟨?_, ?_⟩
      · rw [Hr.out, Hk.out, Hwf.out]; rfl
      · exact Below.setCells _ _ _ _ (Nat.le_succ _) (below_drewN hb2 _)
end Go.Proofs.YtgibllaifnnfkaaDoor.J
namespace Go.Proofs.YtgibllaifnnfkaaDoor.J
open Go.RowKit
theorem info5 : (Tryd.prog.info? 5).map (fun i => (i.zero, i.size, i.bytes)) = some (some (.int .u8 0), 1, 1) := by kernel_rfl
def put4 (A : Array Value) (off : Nat) (x : Int) : Array Value :=
  (((A.setIfInBounds off (.int .u8 (x / 16777216))).setIfInBounds (off + 1) (.int .u8 (x / 65536 % 256))).setIfInBounds (off + 2) (.int .u8 (x / 256 % 256))).setIfInBounds (off + 3) (.int .u8 (x % 256))
theorem put4_list (L1 L2 : List Value) (z0 z1 z2 z3 : Value) (x : Int) (off : Nat) (h : off = L1.length) : put4 (L1 ++ (z0 :: z1 :: z2 :: z3 :: L2)).toArray off x = (L1 ++ (u8s (be4 x) ++ L2)).toArray := by
  subst h
  simp [put4, u8s, be4]
theorem grown_setCell (w : World) (b i : Nat) (v : Value) : w.grownBy (w.setCell ⟨b, i, none⟩ v) (some b) :=
  ⟨rfl, rfl, rfl, by simp [World.setCell], fun k _ hk => Below.heap_setCell _ _ _ _ (fun e => hk (by rw [e]))⟩
theorem grown_trans {a b c : World} {r : Option Nat} (h : a.grownBy b r) (k : b.grownBy c r) : a.grownBy c r :=
  ⟨k.os.trans h.os, k.tape.trans h.tape, k.output.trans h.output, Nat.le_trans h.size k.size, fun i hi hr => (k.block i (Nat.lt_of_lt_of_le hi h.size) hr).trans (h.block i hi hr)⟩
theorem below_grown {B : Nat} {a w w' : World} {b : Nat} (h : Below B a w) (hg : w.grownBy w' (some b)) (hB : B ≤ w.heap.size) (hb : B ≤ b) : Below B a w' :=
  h.grown hg hB (fun k e => by cases e; exact hb)
theorem putWord_own (b off len cap : Nat) (x : Int) (w : World) (A : Array Value) (t : TypeId) (ho : Own w b A t) (hfit : off + 4 ≤ A.size) (hl : 4 ≤ len) (hc : len ≤ cap) (hx : 0 ≤ x) (hx' : x < 4294967296) :
    Calls Tryd.prog 43 #[.slice (some ⟨b, off, none⟩) len cap, .int .u32 x] w fun e w' => e = .returned (.tuple #[]) ∧ Own w' b (put4 A off x) t ∧ w.grownBy w' (some b) := by
  refine (putWord_any b off len cap x w _ _ _ _ hl hc hx hx' (ho.cell (Array.getElem?_eq_getElem (by omega))) (ho.cell (Array.getElem?_eq_getElem (by omega))) (ho.cell (Array.getElem?_eq_getElem (by omega))) (ho.cell (Array.getElem?_eq_getElem (by omega))) (ho.frozen _) (ho.frozen _) (ho.frozen _) (ho.frozen _)).mono ?_
  rintro e w' ⟨rfl, rfl⟩
  exact ⟨rfl, (((ho.setCell _ _).setCell _ _).setCell _ _).setCell _ _, grown_trans (grown_trans (grown_trans (grown_setCell _ _ _ _) (grown_setCell _ _ _ _)) (grown_setCell _ _ _ _)) (grown_setCell _ _ _ _)⟩
theorem pad_array (n q : Nat) (h : noughts n = q) : (u8s (padL n)).toArray = put4 (put4 ((Array.replicate (1 + q + 8) (Value.int .u8 0)).setIfInBounds 0 (Value.int .u8 128)) (1 + q) ((n : Int) * 8 / 4294967296)) (1 + q + 4) ((n : Int) * 8 % 4294967296) := by
  have e : (Array.replicate (1 + q + 8) (Value.int .u8 0)).setIfInBounds 0 (Value.int .u8 128) = ((Value.int .u8 128 :: List.replicate q (Value.int .u8 0)) ++ (Value.int .u8 0 :: Value.int .u8 0 :: Value.int .u8 0 :: Value.int .u8 0 :: [Value.int .u8 0, Value.int .u8 0, Value.int .u8 0, Value.int .u8 0])).toArray := by
    apply Array.ext'
    rw [show 1 + q + 8 = (q + 8) + 1 from by omega]
    simp [List.replicate_succ]
    show List.replicate 8 (Value.int .u8 0) ++ List.replicate q (Value.int .u8 0) = List.replicate q (Value.int .u8 0) ++ List.replicate 8 (Value.int .u8 0)
    rw [List.replicate_append_replicate, List.replicate_append_replicate, Nat.add_comm]
  rw [e, put4_list _ _ _ _ _ _ _ _ (by simp; omega)]
  have e2 : ((Value.int .u8 128 :: List.replicate q (Value.int .u8 0)) ++ (u8s (be4 ((n : Int) * 8 / 4294967296)) ++ [Value.int .u8 0, Value.int .u8 0, Value.int .u8 0, Value.int .u8 0])) = ((Value.int .u8 128 :: List.replicate q (Value.int .u8 0)) ++ u8s (be4 ((n : Int) * 8 / 4294967296))) ++ (Value.int .u8 0 :: Value.int .u8 0 :: Value.int .u8 0 :: Value.int .u8 0 :: []) := by simp
  rw [e2, put4_list _ _ _ _ _ _ _ _ (by simp [u8s, be4]; omega)]
  simp [padL, u8s, h]
set_option maxRecDepth 100000 in
set_option maxHeartbeats 400000 in
theorem pad_any (n : Nat) (w : World) (hn : n ≤ 1099511627776) :
    Calls Tryd.prog 42 #[.int .i64 n] w fun e w' => e = .returned (.slice (some ⟨w.heap.size, 0, none⟩) (padL n).length (padL n).length) ∧ Own w' w.heap.size (u8s (padL n)).toArray 5 ∧ Below w.heap.size w w' := by
  rw [padL_length]
  obtain ⟨q, hq, Hn⟩ : ∃ q : Nat, (64 - ((n : Int) % 64 + 1 + 8) % 64) % 64 = (q : Int) ∧ Hid (noughts n = q) := ⟨noughts n, by unfold noughts; omega, rfl⟩
  have hq63 : q ≤ 63 := by omega
  have Hq := show Hid _ from hq
  clear hq
  rw [Hn.out]
  go_enter Tryd.func42, Tryd.ntmps42
  go_upto_region 3 with fail
  rw [Hq.out]
  have e1 : (1 : Int) + (q : Int) + 8 = ((1 + q + 8 : Nat) : Int) := by omega
  have E1 := show Hid _ from e1
  clear e1
  go_wp2_with (at_make; refine wpList_make_cells _ (by rfl) _ _ 23 (by rfl) 5 _ Tryd.underlying23 info5 (by rfl) .i64 .i64 _ _ (1 + q + 8) (by rfl) (by rfl) E1.out E1.out (by omega) (by unfold maxLen; omega) ?_; intro w1 ho hgr; have c0 := ho.cell (i := 0) (by simp; rfl); have f0 := ho.frozen 0)
  clear c0 f0
  have ho := ho.setCell 0 (.int .u8 128)
  have hgr' := (Below.refl w.heap.size w).grown hgr (Nat.le_refl _) (fun k e => by cases e)
  have hB := below_grown hgr' (grown_setCell w1 w.heap.size 0 (.int .u8 128)) hgr.size (Nat.le_refl _)
  generalize w1.setCell ⟨w.heap.size, 0, none⟩ (.int .u8 128) = w2 at *
  refine (putWord_own _ _ _ _ _ _ _ _ ho (by simp) (by omega) (by omega) (by omega) (by omega)).mono ?_
  rintro e w3 ⟨rfl, ho3, hg3⟩
  have s3 : (put4 ((Array.replicate (1 + q + 8) (Value.int .u8 0)).setIfInBounds 0 (.int .u8 128)) (1 + q) ((n : Int) * 8 / 4294967296)).size = 1 + q + 8 := by simp [put4]
  go_wp2_with fail
  refine (putWord_own _ _ _ _ _ _ _ _ ho3 (by rw [s3]; omega) (by omega) (by omega) (by omega) (by omega)).mono ?_
  rintro e w4 ⟨rfl, ho4, hg4⟩
  go_wp2
  go_ret
  refine ⟨rfl, ?_, below_grown (below_grown hB hg3 hB.size (Nat.le_refl _)) hg4 (Nat.le_trans hB.size hg3.size) (Nat.le_refl _)⟩
  rw [show (u8s (padL n)).toArray = _ from pad_array n q Hn.out]
  exact ho4
end Go.Proofs.YtgibllaifnnfkaaDoor.J
namespace Go.Proofs.YtgibllaifnnfkaaDoor.J
theorem sched_congr {f g : Nat → Int} (h : ∀ i, i < 64 → f i = g i) : ∀ n, n ≤ 64 → sched f n = sched g n
  | 0, _ => rfl
  | n + 1, hn => by
    have ih := sched_congr h n (by omega)
    have e : nextW f (sched f n) = nextW g (sched f n) := by
      unfold nextW
      rw [sched_length]
      split
      · rw [h _ (by omega), h _ (by omega), h _ (by omega), h _ (by omega)]
      · rfl
    rw [sched, sched, e, ih]
theorem mixS_congr {f g : Nat → Int} (s : St) (h : ∀ i, i < 64 → f i = g i) : mixS s f = mixS s g := by
  unfold mixS; rw [sched_congr h 64 (Nat.le_refl _)]
def blocks (f : Nat → Int) : Nat → St
  | 0 => start
  | n + 1 => mixS (blocks f n) (fun i => f (64 * n + i))
theorem blocks_congr {f g : Nat → Int} : ∀ n, (∀ i, i < 64 * n → f i = g i) → blocks f n = blocks g n
  | 0, _ => rfl
  | n + 1, h => by
    rw [blocks, blocks, blocks_congr n (fun i hi => h i (by omega))]
    exact mixS_congr _ (fun i hi => h _ (by omega))
def stOf (l : List Int) : St := blocks (fun i => l.getD i 0) (l.length / 64)
theorem getD_left (l m : List Int) (i : Nat) (h : i < l.length) : (l ++ m).getD i 0 = l.getD i 0 := by
  simp [List.getD, List.getElem?_append_left h]
theorem getD_right (l m : List Int) (i : Nat) : (l ++ m).getD (l.length + i) 0 = m.getD i 0 := by
  simp [List.getD, List.getElem?_append_right]
theorem stOf_small (l m : List Int) (h : l.length % 64 + m.length < 64) : stOf (l ++ m) = stOf l := by
  have e : (l ++ m).length / 64 = l.length / 64 := by rw [List.length_append]; omega
  unfold stOf
  rw [e]
  exact blocks_congr _ (fun i hi => getD_left l m i (by omega))
theorem stOf_block (l m : List Int) (h : l.length % 64 = 0) (hm : m.length = 64) : stOf (l ++ m) = mixS (stOf l) (fun i => m.getD i 0) := by
  have e : (l ++ m).length / 64 = l.length / 64 + 1 := by rw [List.length_append]; omega
  have e2 : 64 * (l.length / 64) = l.length := by omega
  unfold stOf
  rw [e, blocks, blocks_congr (g := fun i => l.getD i 0) _ (fun i hi => getD_left l m i (by omega))]
  exact mixS_congr _ (fun i _ => by rw [e2]; exact getD_right l m i)
def rest (l : List Int) : List Int := l.drop (l.length - l.length % 64)
theorem rest_length (l : List Int) : (rest l).length = l.length % 64 := by
  simp [rest]; have := Nat.mod_le l.length 64; omega
theorem whole_rest (l : List Int) : l.take (l.length - l.length % 64) ++ rest l = l := List.take_append_drop _ _
theorem rest_small (l m : List Int) (h : l.length % 64 + m.length < 64) : rest (l ++ m) = rest l ++ m := by
  have e : (l ++ m).length - (l ++ m).length % 64 = l.length - l.length % 64 := by rw [List.length_append]; omega
  unfold rest
  rw [e, List.drop_append_of_le_length (by omega)]
theorem stOf_fill (l m : List Int) (h : l.length % 64 + m.length = 64) : stOf (l ++ m) = mixS (stOf l) (fun i => (rest l ++ m).getD i 0) := by
  have e := whole_rest l
  have hl : (l.take (l.length - l.length % 64)).length = l.length - l.length % 64 := by simp
  have h0 : (l.take (l.length - l.length % 64)).length % 64 = 0 := by rw [hl]; omega
  have h1 : stOf l = stOf (l.take (l.length - l.length % 64)) := by
    have := stOf_small (l.take (l.length - l.length % 64)) (rest l) (by rw [h0, rest_length]; omega)
    rw [e] at this; exact this
  rw [h1, ← stOf_block _ _ h0 (by rw [List.length_append, rest_length]; exact h), ← List.append_assoc, e]
theorem rest_whole (l : List Int) (h : l.length % 64 = 0) : rest l = [] := by
  unfold rest; rw [h]; simp
def endSt (l : List Int) : St := stOf (l ++ padL l.length)
def stWords (s : St) : List Int := [s.a, s.b, s.c, s.d, s.e, s.f, s.g, s.h]
def sumBytes (s : St) : List Int := (stWords s).flatMap be4
def sumL (s : St) (k : Nat) : List Value := u8s (((stWords s).take k).flatMap be4) ++ List.replicate (32 - 4 * k) (.int .u8 0)
theorem be4_length (x : Int) : (be4 x).length = 4 := rfl
theorem flat_length : ∀ (l : List Int), (l.flatMap be4).length = 4 * l.length
  | [] => rfl
  | x :: r => by rw [List.flatMap_cons, List.length_append, flat_length r, be4_length, List.length_cons]; omega
theorem sumL_length (s : St) (k : Nat) (h : k ≤ 8) : (sumL s k).length = 32 := by
  rw [sumL, List.length_append, u8s, List.length_map, flat_length, List.length_take, List.length_replicate, show (stWords s).length = 8 from rfl, Nat.min_eq_left h]; omega
theorem sumL_zero (s : St) : (sumL s 0).toArray = Array.replicate 32 (Value.int .u8 0) := rfl
theorem sumL_eight (s : St) : sumL s 8 = u8s (sumBytes s) := by simp [sumL, sumBytes, stWords]
theorem sumL_split (s : St) (k : Nat) (h : k < 8) : ∃ L1 L2 : List Value, L1.length = 4 * k ∧ sumL s k = L1 ++ (.int .u8 0 :: .int .u8 0 :: .int .u8 0 :: .int .u8 0 :: L2) ∧ sumL s (k + 1) = L1 ++ (u8s (be4 ((stWords s).getD k 0)) ++ L2) := by
  refine ⟨u8s (((stWords s).take k).flatMap be4), List.replicate (32 - 4 * (k + 1)) (.int .u8 0), ?_, ?_, ?_⟩
  · rw [u8s, List.length_map, flat_length, List.length_take, show (stWords s).length = 8 from rfl, Nat.min_eq_left (by omega)]
  · rw [sumL, show 32 - 4 * k = (32 - 4 * (k + 1)) + 1 + 1 + 1 + 1 from by omega]; rfl
  · have hk : k < (stWords s).length := h
    have e : (stWords s).getD k 0 = (stWords s)[k] := by simp [List.getD, hk]
    rw [sumL, List.take_succ_eq_append_getElem hk, List.flatMap_append, e, u8s, u8s, u8s, List.map_append, List.append_assoc]
    simp
def digest (l : List Int) : List Int := sumBytes (endSt l)
def St.ok (s : St) : Prop := (0 ≤ s.a ∧ s.a < 4294967296) ∧ (0 ≤ s.b ∧ s.b < 4294967296) ∧ (0 ≤ s.c ∧ s.c < 4294967296) ∧ (0 ≤ s.d ∧ s.d < 4294967296) ∧ (0 ≤ s.e ∧ s.e < 4294967296) ∧ (0 ≤ s.f ∧ s.f < 4294967296) ∧ (0 ≤ s.g ∧ s.g < 4294967296) ∧ (0 ≤ s.h ∧ s.h < 4294967296)
theorem addSt_ok (s r : St) : (addSt s r).ok := by simp only [St.ok, addSt]; omega
theorem blocks_ok (f : Nat → Int) : ∀ n, (blocks f n).ok
  | 0 => by simp only [St.ok, blocks, start]; omega
  | n + 1 => addSt_ok _ _
theorem stOf_ok (l : List Int) : (stOf l).ok := blocks_ok _ _
def shaL (s : St) (tl : List Int) (n : Int) : List Value :=
  .int .u32 s.a :: .int .u32 s.b :: .int .u32 s.c :: .int .u32 s.d :: .int .u32 s.e :: .int .u32 s.f :: .int .u32 s.g :: .int .u32 s.h :: (u8s tl ++ [.int .i64 n])
def shaArr (s : St) (tl : List Int) (n : Int) : Array Value := (shaL s tl n).toArray
theorem shaArr_size (s : St) (tl : List Int) (n : Int) (h : tl.length = 64) : (shaArr s tl n).size = 73 := by simp [shaArr, shaL, u8s, h]
theorem shaArr_len (s : St) (tl : List Int) (n : Int) (h : tl.length = 64) : (shaArr s tl n)[72]? = some (.int .i64 n) := by
  simp [shaArr, shaL, u8s, h]
theorem shaArr_setLen (s : St) (tl : List Int) (n n' : Int) (h : tl.length = 64) : (shaArr s tl n).setIfInBounds 72 (.int .i64 n') = shaArr s tl n' := by
  simp [shaArr, shaL, u8s, h]
theorem shaArr_setSt (s s' : St) (tl : List Int) (n : Int) : ((((((((shaArr s tl n).setIfInBounds 0 (.int .u32 s'.a)).setIfInBounds 1 (.int .u32 s'.b)).setIfInBounds 2 (.int .u32 s'.c)).setIfInBounds 3 (.int .u32 s'.d)).setIfInBounds 4 (.int .u32 s'.e)).setIfInBounds 5 (.int .u32 s'.f)).setIfInBounds 6 (.int .u32 s'.g)).setIfInBounds 7 (.int .u32 s'.h) = shaArr s' tl n := by
  simp [shaArr, shaL]
theorem shaArr_tail (s : St) (tl : List Int) (n : Int) (i : Nat) (h : i < tl.length) : (shaArr s tl n)[8 + i]? = some (.int .u8 (tl.getD i 0)) := by
  rw [Nat.add_comm]
  simp [shaArr, shaL, u8s, List.getElem?_append_left, h]
theorem shaL_splice (s : St) (tl m : List Int) (n : Int) (o : Nat) (h : o + m.length ≤ tl.length) : splice (shaL s tl n) (8 + o) (u8s m) = shaL s (tl.take o ++ (m ++ tl.drop (o + m.length))) n := by
  rw [Nat.add_comm]
  have e : o + 8 + m.length = (o + m.length) + 8 := by omega
  simp [splice, shaL, u8s, e, List.take_append_of_le_length, List.drop_append_of_le_length, h, Nat.le_trans (Nat.le_add_right o m.length) h]
end Go.Proofs.YtgibllaifnnfkaaDoor.J
