/- The walk of the law WideExact. -/
import Derived.Test.YtbofcnmhdjleeaaDoorW10
import Derived.Test.YtbofcnmhdjleeaaDoorL2
import Derived.Test.YtbofcnmhdjleeaaDoorV3
namespace Go.Proofs.YtbofcnmhdjleeaaDoor
open Go.RowKit

theorem ref_len (a : Option Addr) (len cap : Nat) (m : List Int) (w : World) (hm : BytesV w a len cap m) (hcap : a = none → cap = 0) (hl : len ≤ 1000000) :
    Calls Tryd.prog 9 #[.slice a len cap] w fun e w' => e = .returned (.agg (dig m)) ∧ Below w.heap.size w w' := by
  obtain rfl := hm.1
  exact ref_any a cap m w hm hcap hl
/-- The first part that is too long, if there is one, is met ahead of all that lies behind it. -/
def short (ms : List (List Int)) (k : Nat) : Prop := ∀ m ∈ ms.take k, m.length ≤ 400
theorem short_len (ms : List (List Int)) : ∀ k, short ms k → (upTo ms k).length ≤ 400 * k
  | 0, _ => by simp [upTo]
  | k + 1, h => by
    by_cases hk : k < ms.length
    · have h1 : short ms k := fun m hm => h m (by rw [List.take_succ_eq_append_getElem hk]; exact List.mem_append_left _ hm)
      have h2 := h ms[k] (by rw [List.take_succ_eq_append_getElem hk]; exact List.mem_append_right _ (by simp))
      rw [upTo_succ ms k ms[k] (List.getElem?_eq_getElem hk), List.length_append]
      have := short_len ms k h1; omega
    · have h1 : short ms k := fun m hm => h m (by rw [List.take_of_length_le (by omega)] at hm ⊢; exact hm)
      have := short_len ms k h1
      rw [upTo_all ms (k + 1) (by omega), ← upTo_all ms k (by omega)]; omega

def valE (x : Option Addr) (L c : Nat) (ms : List (List Int)) (len : Nat) : Nat → Value
  | 0 => .agg (dig (upTo ms len))
  | 1 => .slice x L c
  | 2 => .agg (dig (upTo ms len))
  | 5 => .agg (dig (upTo ms len))
  | 6 => .slice x L c
  | 8 => .agg (dig (upTo ms len))
  | _ => .bool true
def factE (x : Option Addr) (L c : Nat) (ms : List (List Int)) (len : Nat) : Nat → Value → World → Prop
  | 7, v, w => ∃ y, v = .slice y 1 1 ∧ RowsV w y 1 1 [upTo ms len]
  | i, v, _ => v = valE x L c ms len i
theorem factE_keep (x : Option Addr) (L c : Nat) (ms : List (List Int)) (len : Nat) (i : Nat) (v : Value) (w w' : World) (hB : Below w.heap.size w w') (h : factE x L c ms len i v w) : factE x L c ms len i v w' := by
  unfold factE at *
  split at h
  · obtain ⟨x, h1, h2⟩ := h; exact ⟨x, h1, h2.below hB⟩
  · exact h

set_option maxRecDepth 100000 in
set_option maxHeartbeats 4000000 in
theorem exact_any (a : Option Addr) (len cap : Nat) (ms : List (List Int)) (w : World) (hR : RowsV w a len cap ms) (hT : Tabs w) :
    Calls Tryd.prog 3 #[.slice a len cap] w fun e w' => e = .returned (.bool true) ∧ Below w.heap.size w w' := by
  by_cases hlen : 20 < len
  · have hi : (20 : Int) < (len : Int) := by omega
    go_enter Tryd.func3, Tryd.ntmps3
    go_wp2_with fail
    go_ret
    exact ⟨rfl, Below.refl _ _⟩
  have hi : ¬ (20 : Int) < (len : Int) := by omega
  have hl20 : len ≤ 20 := by omega
  have hli : (len : Int) ≤ 20 := by omega
  have HL := show Hid _ from hR.1
  have hz2 := (zero_of_info zero25).1
  clear hlen
  go_enter Tryd.func3, Tryd.ntmps3
  go_wp2_with fail
  clear hi
  go_loopw [3, 4] (fun v i wr => ∃ k : Nat, k ≤ len ∧ i = .int .i64 (k : Int) ∧ short ms k ∧ Bys (upTo ms k) ∧ OwnBytes wr w.heap.size v (upTo ms k) ∧ Below w.heap.size w wr) (fun _ i _ => len - (intOf i).toNat)
  case atStart => exact ⟨0, Nat.zero_le _, rfl, (fun _ hm => by cases hm), (fun _ hm => by cases hm), ownBytes_nil _ _, Below.refl _ _⟩
  case round =>
    obtain ⟨k, hk, rfl, hsh, hby, hO, hb⟩ := hrel
    by_cases hkl : k < len
    · have hki : (k : Int) < (len : Int) := by omega
      have hk0 : (0 : Int) ≤ (k : Int) := by omega
      obtain ⟨b, off, m, a', cap', rfl, hm, hc, hv, hn'⟩ := hR.at k hkl
      have hc' : wr.cell? ⟨b, off + k, none⟩ = some (.slice a' m.length cap') := by rw [hb.cell (World.block_lt_of_cell? w _ hc)]; exact hc
      have HM := show Hid _ from hm
      clear hc hm
      by_cases hml : 400 < m.length
      · have hmi : (400 : Int) < (m.length : Int) := by omega
        go_wp2_with fail
        go_ret
        exact ⟨rfl, hb⟩
      · have hmi : ¬ (400 : Int) < (m.length : Int) := by omega
        obtain ⟨ao, co, rfl, hVo⟩ := hO.form hby
        have hsl := short_len ms k hsh
        have hbs := hb.size
        go_wp2_with (at_builtin; refine wpList_append_bytes (by rfl) (.tmp 23) (.tmp 27) (by rfl) w.heap.size _ _ (by rfl) hO hby a' m.length cap' m (by rfl) (hv.below hb) hn' (by omega) hbs ?_; intro a3 cap3 w3 hO3 hg3 hV3)
        go_roundw
        case rel =>
          have e1 := upTo_succ ms k m HM.out
          have e2 : short ms (k + 1) := fun m' hm' => by
            obtain ⟨hk', e⟩ := List.getElem?_eq_some_iff.1 HM.out
            rw [List.take_succ_eq_append_getElem hk', e] at hm'
            rcases List.mem_append.1 hm' with h | h
            · exact hsh m' h
            · simp only [List.mem_singleton] at h; subst h; omega
          refine ⟨k + 1, by omega, by go_num, e2, by rw [e1]; exact hV3.2.2.2.1, by rw [e1]; exact hO3, hb.grown hg3 hbs (fun g e => hO.base_le e)⟩
        case measure => simp [intOf]; omega
    · have hki : ¬ (k : Int) < (len : Int) := by omega
      have hkl' : k = len := by omega
      subst hkl'
      have hsl := short_len ms k hsh
      have hall : upTo ms k = ms.flatten := upTo_all ms k (by have := HL.out; omega)
      have HA := show Hid _ from hall
      obtain ⟨x, c, rfl, hVx⟩ := hO.form hby
      have hnx := hO.nil
      have hms : ∀ m ∈ ms, m.length ≤ 1000000 := fun m hm => by
        have := hsh m (by rw [List.take_of_length_le (by have := HL.out; omega)]; exact hm)
        omega
      have HMS := show Hid _ from hms
      clear hall hms hsh
      obtain ⟨L, HLL⟩ : ∃ L, Hid (L = (upTo ms k).length) := ⟨_, rfl⟩
      rw [← HLL.out] at hVx hsl ⊢
      go_wp2_with fail
      refine (twinRows_any a k cap ms wr (hR.below hb) (by omega) HMS.out).mono ?_
      rintro e w1 ⟨ai, ci, rfl, hI, hb1⟩
      have hb2 := bel hb hb1
      have hVx := hVx.below hb1
      have hlen8 : ms.flatten.length ≤ 16000000 := by rw [← HA.out, ← HLL.out]; omega
      have HL8 := show Hid _ from hlen8
      clear hb1 hlen8 hO
      go_wp2_with fail
      refine (sum_any ai k ci ms w1 hI (hT.below hb2) HL8.out).mono ?_
      rintro e w2 ⟨rfl, hb3⟩
      rw [← HA.out]
      have hb4 := bel hb2 hb3
      have hVx := hVx.below hb3
      have hI := hI.below hb3
      clear hb3 hb2
      have hsz := dig_size (upTo ms k)
      go_upto_region 12 with (refine wpList_store_new (by rfl) 25 (.tmp 6) (.tmp 32) (by rfl) _ (dig (upTo ms k)) (by rfl) (by rfl) (dig_info _) (by rw [hsz]; rfl) (dig_one _) (by rfl) ?_)
      have oX := own_new w2 (dig (upTo ms k)) 25
      have hal := alloc_below w2 (.cells (dig (upTo ms k)) 25)
      have hb5 := bel hb4 hal
      have hVx := hVx.below hal
      have hI := hI.below hal
      generalize w2.alloc (.cells (dig (upTo ms k)) 25) = w3 at *
      generalize w2.heap.size = X at *
      clear hal hb4 hsz hki hkl
      obtain ⟨len, Hlen⟩ : ∃ len, Hid (len = k) := ⟨_, rfl⟩
      have hR' : RowsV w a len cap ms := by rw [Hlen.out]; exact hR
      have hI : RowsV w3 ai len ci ms := by rw [Hlen.out]; exact hI
      have oX : Own w3 X (dig (upTo ms len)) 25 := by rw [Hlen.out]; exact oX
      have hVx : BytesV w3 x L c (upTo ms len) := by rw [Hlen.out]; exact hVx
      rw [show (k : Nat) = len from Hlen.out.symm]
      have hli : (len : Int) ≤ 20 := by rw [Hlen.out]; omega
      have hLb : L ≤ 8000 := by omega
      have hLl : (upTo ms len).length ≤ 8000 := by rw [← hVx.1]; exact hLb
      clear hR hk hby hb HMS HL8 HA HLL hsl hl20 HL
      go_wp2_with fail
      go_loopw [7] (fun i wx => ∃ k : Nat, k ≤ len ∧ i = .int .i64 (k : Int) ∧ Below w3.heap.size w3 wx) (fun i _ => len - (intOf i).toNat)
      case atStart => exact ⟨0, Nat.zero_le _, rfl, Below.refl _ _⟩
      case round =>
        obtain ⟨k, hk, rfl, hbx⟩ := hrel
        by_cases hkl : k < len
        · have hki : (k : Int) < (len : Int) := by omega
          have hk0 : (0 : Int) ≤ (k : Int) := by omega
          obtain ⟨b, off, m, a1, cap1, rfl, hm, c1, v1, -⟩ := (hI.below hbx).at k hkl
          obtain ⟨b2, off2, m2, a2, cap2, rfl, hm2, c2, v2, -⟩ := (hR'.below (bel hb5 hbx)).at k hkl
          obtain rfl : m = m2 := Option.some.inj (hm.symm.trans hm2)
          clear hm hm2
          go_wp2_with fail
          have k1 : ∀ d os, Calls Tryd.prog 8 #[.slice a1 m.length cap1, .slice a2 m.length cap2] (Go.Sort.grow (redrawn wr d) os) fun e w'' => e = .returned (.bool true) ∧ ∃ p : Regrown, w'' = Go.Sort.grow (redrawn wr p.d) p.os := fun d os =>
            Calls.regrown_of (bytes_any a1 a2 m.length cap1 cap2 m _ (v1.below (below_regrown wr d os)) (v2.below (below_regrown wr d os)))
          have K1 := show Hid _ from k1
          have c1' : ∀ d os, (Go.Sort.grow (redrawn wr d) os).cell? ⟨b, off + k, none⟩ = some (.slice a1 m.length cap1) := fun d os => ((below_regrown wr d os).cell (World.block_lt_of_cell? _ _ c1)).trans c1
          have c2' : ∀ d os, (Go.Sort.grow (redrawn wr d) os).cell? ⟨b2, off2 + k, none⟩ = some (.slice a2 m.length cap2) := fun d os => ((below_regrown wr d os).cell (World.block_lt_of_cell? _ _ c2)).trans c2
          clear k1
          refine wp_region_quiet_below (by kernel_rfl) (by kernel_rfl) ?_
          repeat (first
            | go_big_quiet_skip
            | (go_big_quiet_want; first
                | (go_big_quiet_op; first
                    | go_big_quiet_on
                    | go_big_quiet_call (first
                        | (go_at_call 8; exact K1.out _ _)))))
          refine wpQuiet_nil ?_
          intro _ hw'
          obtain ⟨⟨dq, osq⟩, hw''⟩ := hw'
          subst hw''
          have hbq := below_regrown wr dq osq
          go_wp2_with fail
          refine ⟨⟨k + 1, by omega, by go_num, bel hbx hbq⟩, by simp [intOf]; omega⟩
        · have hki : ¬ (k : Int) < (len : Int) := by omega
          have hTW := hT.below (bel hb5 hbx)
          have hVx := hVx.below hbx
          have oX := oX.below hbx oX.lt
          have e1 := dig_eq (upTo ms len)
          go_wp2_with fail
          refine wp_region_stable 63 (by kernel_rfl) (by kernel_rfl) (by rfl) (factE x L c ms len) (factE_keep x L c ms len) ?_ ?_
          · intro L' ac wc i o hF ho hd
            rcases i with _ | _ | _ | _ | _ | _ | _ | _ | _ | _ | _ | _ | _ | _ | _ | i
            · obtain rfl := Option.some.inj ho
              have f6 : ac.tmps.getD 6 undef = .pointer (some ⟨X, 0, none⟩) := slot hF 6 (by kernel_rfl)
              refine ⟨wanted_free rfl, fun K hK => ?_⟩
              exact wp_load_own 25 (.tmp 6) rfl X f6 (dig (upTo ms len)) _ 25 (oX.below hF.cls oX.lt) Tryd.underlying25 rfl (dig_info _) (hK _ _ (Below.refl _ _) rfl)
            · obtain rfl := Option.some.inj ho
              have f3 : ac.tmps.getD 3 undef = .slice x L c := slot hF 3 (by kernel_rfl)
              refine ⟨wanted_free rfl, fun K hK => ?_⟩
              unfold Oper.wp
              go_simp
              exact hK _ _ (Below.refl _ _) rfl
            · obtain rfl := Option.some.inj ho
              have f50 : ac.tmps.getD 50 undef = .slice x L c := hF.fact 1 _ _ rfl rfl (dep hd 1 (by kernel_rfl))
              refine ⟨wanted_free rfl, fun K hK => ?_⟩
              unfold Oper.wp
              go_simp
              refine (ref_len x L c (upTo ms len) _ (hVx.below hF.cls) hnx (by omega)).mono ?_
              rintro e w' ⟨rfl, hB⟩
              exact hK _ _ hB rfl
            · obtain rfl := Option.some.inj ho
              have f49 : ac.tmps.getD 49 undef = .agg (dig (upTo ms len)) := hF.fact 0 _ _ rfl rfl (dep hd 0 (by kernel_rfl))
              have f51 : ac.tmps.getD 51 undef = .agg (dig (upTo ms len)) := hF.fact 2 _ _ rfl rfl (dep hd 2 (by kernel_rfl))
              refine ⟨wanted_free rfl, fun K hK => ?_⟩
              unfold Oper.wp
              go_simp
              exact hK _ _ (Below.refl _ _) rfl
            · obtain rfl := Option.some.inj ho
              have f52 : ac.tmps.getD 52 undef = .bool true := hF.fact 3 _ _ rfl rfl (dep hd 3 (by kernel_rfl))
              refine ⟨wanted_free rfl, fun K hK => ?_⟩
              unfold Oper.wp
              go_simp
              exact hK _ _ (Below.refl _ _) rfl
            · obtain rfl := Option.some.inj ho
              have f6 : ac.tmps.getD 6 undef = .pointer (some ⟨X, 0, none⟩) := slot hF 6 (by kernel_rfl)
              have fg : ac.tmps.getD 53 undef = .bool true := hF.fact 4 _ _ rfl rfl (dep hd 4 (by kernel_rfl))
              refine ⟨wanted_true (g := 4) rfl rfl rfl fg, fun K hK => ?_⟩
              exact wp_load_own 25 (.tmp 6) rfl X f6 (dig (upTo ms len)) _ 25 (oX.below hF.cls oX.lt) Tryd.underlying25 rfl (dig_info _) (hK _ _ (Below.refl _ _) rfl)
            · obtain rfl := Option.some.inj ho
              have f3 : ac.tmps.getD 3 undef = .slice x L c := slot hF 3 (by kernel_rfl)
              have fg : ac.tmps.getD 53 undef = .bool true := hF.fact 4 _ _ rfl rfl (dep hd 4 (by kernel_rfl))
              refine ⟨wanted_true (g := 4) rfl rfl rfl fg, fun K hK => ?_⟩
              unfold Oper.wp
              go_simp
              exact hK _ _ (Below.refl _ _) rfl
            · obtain rfl := Option.some.inj ho
              have f55 : ac.tmps.getD 55 undef = .slice x L c := hF.fact 6 _ _ rfl rfl (dep hd 6 (by kernel_rfl))
              have fg : ac.tmps.getD 53 undef = .bool true := hF.fact 4 _ _ rfl rfl (dep hd 4 (by kernel_rfl))
              refine ⟨wanted_true (g := 4) rfl rfl rfl fg, fun K hK => ?_⟩
              have q55 := getq f55
              unfold Oper.wp
              go_simp
              exact hK _ _ (alloc_below _ _) ⟨_, rfl, one_row _ _ _ _ _ (hVx.below hF.cls) hnx⟩
            · obtain rfl := Option.some.inj ho
              obtain ⟨y, f56, hy⟩ : ∃ y, ac.tmps.getD 56 undef = .slice y 1 1 ∧ RowsV wc y 1 1 [upTo ms len] := hF.fact 7 _ _ rfl rfl (dep hd 7 (by kernel_rfl))
              have fg : ac.tmps.getD 53 undef = .bool true := hF.fact 4 _ _ rfl rfl (dep hd 4 (by kernel_rfl))
              refine ⟨wanted_true (g := 4) rfl rfl rfl fg, fun K hK => ?_⟩
              unfold Oper.wp
              go_simp
              refine (sum_any _ _ _ [upTo ms len] _ hy (hTW.below hF.cls) (by rw [flat_one]; omega)).mono ?_
              rintro e w' ⟨rfl, hB⟩
              exact hK _ _ hB (by rw [flat_one]; rfl)
            · obtain rfl := Option.some.inj ho
              have f54 : ac.tmps.getD 54 undef = .agg (dig (upTo ms len)) := hF.fact 5 _ _ rfl rfl (dep hd 5 (by kernel_rfl))
              have f57 : ac.tmps.getD 57 undef = .agg (dig (upTo ms len)) := hF.fact 8 _ _ rfl rfl (dep hd 8 (by kernel_rfl))
              have fg : ac.tmps.getD 53 undef = .bool true := hF.fact 4 _ _ rfl rfl (dep hd 4 (by kernel_rfl))
              refine ⟨wanted_true (g := 4) rfl rfl rfl fg, fun K hK => ?_⟩
              unfold Oper.wp
              go_simp
              exact hK _ _ (Below.refl _ _) rfl
            · obtain rfl := Option.some.inj ho
              have f53 : ac.tmps.getD 53 undef = .bool true := hF.fact 4 _ _ rfl rfl (dep hd 4 (by kernel_rfl))
              have f58 : ac.tmps.getD 58 undef = .bool true := hF.fact 9 _ _ rfl rfl (dep hd 9 (by kernel_rfl))
              refine ⟨wanted_free rfl, fun K hK => ?_⟩
              unfold Oper.wp
              go_simp
              exact hK _ _ (Below.refl _ _) rfl
            · obtain rfl := Option.some.inj ho
              have f59 : ac.tmps.getD 59 undef = .bool true := hF.fact 10 _ _ rfl rfl (dep hd 10 (by kernel_rfl))
              refine ⟨wanted_free rfl, fun K hK => ?_⟩
              unfold Oper.wp
              go_simp
              exact hK _ _ (Below.refl _ _) rfl
            · obtain rfl := Option.some.inj ho
              have fg : ac.tmps.getD 60 undef = .bool true := hF.fact 11 _ _ rfl rfl (dep hd 11 (by kernel_rfl))
              refine ⟨wanted_true (g := 11) rfl rfl rfl fg, fun K hK => ?_⟩
              unfold Oper.wp
              go_simp
              refine (wakes_any _ (hTW.below hF.cls)).mono ?_
              rintro e w' ⟨rfl, hB⟩
              exact hK _ _ hB rfl
            · obtain rfl := Option.some.inj ho
              have f60 : ac.tmps.getD 60 undef = .bool true := hF.fact 11 _ _ rfl rfl (dep hd 11 (by kernel_rfl))
              have f61 : ac.tmps.getD 61 undef = .bool true := hF.fact 12 _ _ rfl rfl (dep hd 12 (by kernel_rfl))
              refine ⟨wanted_free rfl, fun K hK => ?_⟩
              unfold Oper.wp
              go_simp
              exact hK _ _ (Below.refl _ _) rfl
            · obtain rfl := Option.some.inj ho
              have f62 : ac.tmps.getD 62 undef = .bool true := hF.fact 13 _ _ rfl rfl (dep hd 13 (by kernel_rfl))
              refine ⟨wanted_free rfl, fun K hK => ?_⟩
              unfold Oper.wp
              go_simp
              exact hK _ _ (Below.refl _ _) rfl
            · cases ho
          · intro L' ac wc hL hF
            have hbe := hF.cls
            have f2 : ac.tmps.getD 2 undef = .bool true := hF.fact 14 _ 2 rfl rfl (hL 14 (by decide))
            go_wp2
            exact bodyPost_ret (results_tmp rfl _ _ _) hF.defers ⟨by rw [f2], bel (bel hb5 hbx) hbe⟩
end Go.Proofs.YtbofcnmhdjleeaaDoor
