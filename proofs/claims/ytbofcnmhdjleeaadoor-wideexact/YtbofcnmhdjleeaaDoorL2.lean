/- The walk of the law WideParts. -/
import Derived.Test.YtbofcnmhdjleeaaDoorW8
import Derived.Test.YtbofcnmhdjleeaaDoorK4
namespace Go.Proofs.YtbofcnmhdjleeaaDoor
open Go.RowKit

theorem getq {a : Act} {s : Nat} {v : Value} (h : a.tmps.getD s undef = v) : a.tmps[s]?.getD undef = v := by rw [← h]; simp
theorem flat_one (m : List Int) : [m].flatten = m := by simp
theorem flat_nil : ([] : List (List Int)).flatten = [] := rfl
theorem flat_two : ([[], []] : List (List Int)).flatten = [] := rfl
theorem five_flat (m : List Int) (P Q : Nat) (h : Q ≤ P) : [m.take Q, [], (m.take P).drop Q, m.drop P, []].flatten = m := by
  have e : m.take Q ++ (m.take P).drop Q = m.take P := by
    rw [show m.take Q = (m.take P).take Q from by rw [List.take_take, Nat.min_eq_left h], List.take_append_drop]
  simp only [List.flatten_cons, List.flatten_nil, List.nil_append, List.append_nil]
  rw [← List.append_assoc, e, List.take_append_drop]
theorem one_row (w : World) (a : Option Addr) (len cap : Nat) (m : List Int) (hm : BytesV w a len cap m) (hn : a = none → cap = 0) :
    RowsV (w.alloc (.cells #[.slice a len cap] 23)) (some ⟨w.heap.size, 0, none⟩) 1 1 [m] := by
  obtain rfl := hm.1
  exact rowsV_new w [(a, cap, m)] (fun p hp => by simp only [List.mem_singleton] at hp; subst hp; exact ⟨hm, hn⟩) (show 1 ≤ maxLen by decide)
theorem two_rows (w : World) : RowsV (w.alloc (.cells #[.slice none 0 0, .slice none 0 0] 23)) (some ⟨w.heap.size, 0, none⟩) 2 2 [[], []] :=
  rowsV_new w [(none, 0, []), (none, 0, [])] (fun p hp => by
    simp only [List.mem_cons, List.not_mem_nil, or_false, or_self] at hp; subst hp; exact ⟨bytesV_nil _, fun _ => rfl⟩) (show 2 ≤ maxLen by decide)
theorem cut_nil {a : Option Addr} {cap q : Nat} (h : a = none → cap = 0) : cutAddr a cap q = none → cap - q = 0 := by
  unfold cutAddr
  split
  · intro _; omega
  · intro e
    cases a with
    | none => rw [h rfl]; omega
    | some x => cases e
theorem five_rows (w : World) (a : Option Addr) (len cap : Nat) (m : List Int) (P Q : Nat) (hm : BytesV w a len cap m) (hn : a = none → cap = 0) (hQP : Q ≤ P) (hPl : P ≤ len) :
    RowsV (w.alloc (.cells #[.slice a Q cap, .slice none 0 0, .slice (cutAddr a cap Q) (P - Q) (cap - Q), .slice (cutAddr a cap P) (len - P) (cap - P), .slice none 0 0] 23)) (some ⟨w.heap.size, 0, none⟩) 5 5 [m.take Q, [], (m.take P).drop Q, m.drop P, []] := by
  have h1 := hm.take Q (by omega)
  have h2 := (hm.take P hPl).drop Q hQP
  have h3 := hm.drop P hPl
  have e1 : (m.take Q).length = Q := h1.1.symm
  have e2 : ((m.take P).drop Q).length = P - Q := h2.1.symm
  have e3 : (m.drop P).length = len - P := h3.1.symm
  have := rowsV_new w [(a, cap, m.take Q), (none, 0, []), (cutAddr a cap Q, cap - Q, (m.take P).drop Q), (cutAddr a cap P, cap - P, m.drop P), (none, 0, [])] (fun p hp => by
    simp only [List.mem_cons, List.not_mem_nil, or_false] at hp
    rcases hp with rfl | rfl | rfl | rfl | rfl
    · exact ⟨by rw [e1]; exact h1, hn⟩
    · exact ⟨bytesV_nil _, fun _ => rfl⟩
    · exact ⟨by rw [e2]; exact h2, cut_nil hn⟩
    · exact ⟨by rw [e3]; exact h3, cut_nil hn⟩
    · exact ⟨bytesV_nil _, fun _ => rfl⟩) (show 5 ≤ maxLen by decide)
  simp only [slv, List.map_cons, List.map_nil, e1, e2, e3] at this
  exact this

/-- The values of the last statement's operations; those not named are true. -/
def valP (a : Option Addr) (len cap : Nat) (m : List Int) (P Q : Nat) : Nat → Value
  | 0 => .slice a len cap
  | 2 => .agg (dig m)
  | 3 => .slice a len cap
  | 4 => .int .i64 (Q : Int)
  | 5 => .slice a Q cap
  | 6 => .slice a len cap
  | 7 => .int .i64 (Q : Int)
  | 8 => .int .i64 (P : Int)
  | 9 => .slice (cutAddr a cap Q) (P - Q) (cap - Q)
  | 10 => .slice a len cap
  | 11 => .int .i64 (P : Int)
  | 12 => .slice (cutAddr a cap P) (len - P) (cap - P)
  | 14 => .agg (dig m)
  | 17 => .agg (dig [])
  | 19 => .agg (dig [])
  | _ => .bool true
def factP (a : Option Addr) (len cap : Nat) (m : List Int) (P Q : Nat) : Nat → Value → World → Prop
  | 1, v, w => ∃ x, v = .slice x 1 1 ∧ RowsV w x 1 1 [m]
  | 13, v, w => ∃ x, v = .slice x 5 5 ∧ RowsV w x 5 5 [m.take Q, [], (m.take P).drop Q, m.drop P, []]
  | 18, v, w => ∃ x, v = .slice x 2 2 ∧ RowsV w x 2 2 [[], []]
  | i, v, _ => v = valP a len cap m P Q i
theorem factP_keep (a : Option Addr) (len cap : Nat) (m : List Int) (P Q : Nat) (i : Nat) (v : Value) (w w' : World) (hB : Below w.heap.size w w') (h : factP a len cap m P Q i v w) : factP a len cap m P Q i v w' := by
  unfold factP at *
  split at h
  · obtain ⟨x, h1, h2⟩ := h; exact ⟨x, h1, h2.below hB⟩
  · obtain ⟨x, h1, h2⟩ := h; exact ⟨x, h1, h2.below hB⟩
  · obtain ⟨x, h1, h2⟩ := h; exact ⟨x, h1, h2.below hB⟩
  · exact h

set_option maxRecDepth 100000 in
set_option maxHeartbeats 4000000 in
theorem parts_any (a : Option Addr) (len cap : Nat) (m : List Int) (p q : Int) (w : World) (hm : BytesV w a len cap m) (hn : a = none → cap = 0) (hT : Tabs w) :
    Calls Tryd.prog 5 #[.slice a len cap, .int .i64 p, .int .i64 q] w fun e w' => e = .returned (.bool true) ∧ Below w.heap.size w w' := by
  by_cases hlen : 400 < len
  · have hi : (400 : Int) < (len : Int) := by omega
    go_enter Tryd.func5, Tryd.ntmps5
    go_wp2_with fail
    go_ret
    exact ⟨rfl, Below.refl _ _⟩
  · have hi : ¬ (400 : Int) < (len : Int) := by omega
    have hi' : (len : Int) ≤ 400 := by omega
    obtain ⟨P, hP, hPl⟩ := left_over p len (by omega)
    obtain ⟨Q, hQ, hQP⟩ := left_over q P (by omega)
    have HP := show Hid _ from hP
    have HQ := show Hid _ from hQ
    clear hP hQ
    go_enter Tryd.func5, Tryd.ntmps5
    go_upto_region 4 with fail
    rw [HP.out]
    have hPi : (P : Int) ≤ 400 := by omega
    go_upto_region 5 with fail
    rw [HQ.out]
    have hPc : P ≤ cap := by have := hm.2.1; omega
    have hQc : (Q : Int) ≤ (cap : Int) := by omega
    have hQ0 : (0 : Int) ≤ (Q : Int) := by omega
    have hml : m.length ≤ 400 := by have := hm.1; omega
    have e1 := dig_eq m
    have e2 := dig_eq []
    have hTW := hT
    clear HP HQ hlen
    refine wp_region_stable 50 (by kernel_rfl) (by kernel_rfl) (by rfl) (factP a len cap m P Q) (factP_keep a len cap m P Q) ?_ ?_
    · intro L ac wc i o hF ho hd
      rcases i with _ | _ | _ | _ | _ | _ | _ | _ | _ | _ | _ | _ | _ | _ | _ | _ | _ | _ | _ | _ | _ | _ | _ | _ | _ | _ | i
      · obtain rfl := Option.some.inj ho
        have f0 : ac.tmps.getD 0 undef = .slice a len cap := slot hF 0 (by kernel_rfl)
        refine ⟨wanted_free rfl, fun K hK => ?_⟩
        unfold Oper.wp
        go_simp
        exact hK _ _ (Below.refl _ _) rfl
      · obtain rfl := Option.some.inj ho
        have f25 : ac.tmps.getD 25 undef = .slice a len cap := hF.fact 0 _ _ rfl rfl (dep hd 0 (by kernel_rfl))
        refine ⟨wanted_free rfl, fun K hK => ?_⟩
        have q25 := getq f25
        unfold Oper.wp
        go_simp
        exact hK _ _ (alloc_below _ _) ⟨_, rfl, one_row _ _ _ _ _ (hm.below hF.cls) hn⟩
      · obtain rfl := Option.some.inj ho
        obtain ⟨x, f26, hx⟩ : ∃ x, ac.tmps.getD 26 undef = .slice x 1 1 ∧ RowsV wc x 1 1 [m] := hF.fact 1 _ _ rfl rfl (dep hd 1 (by kernel_rfl))
        refine ⟨wanted_free rfl, fun K hK => ?_⟩
        unfold Oper.wp
        go_simp
        refine (sum_any _ _ _ [m] _ hx (hTW.below hF.cls) (by rw [flat_one]; omega)).mono ?_
        rintro e w' ⟨rfl, hB⟩
        exact hK _ _ hB (by rw [flat_one]; rfl)
      · obtain rfl := Option.some.inj ho
        have f0 : ac.tmps.getD 0 undef = .slice a len cap := slot hF 0 (by kernel_rfl)
        refine ⟨wanted_free rfl, fun K hK => ?_⟩
        unfold Oper.wp
        go_simp
        exact hK _ _ (Below.refl _ _) rfl
      · obtain rfl := Option.some.inj ho
        have f2 : ac.tmps.getD 2 undef = .int .i64 (Q : Int) := slot hF 2 (by kernel_rfl)
        refine ⟨wanted_free rfl, fun K hK => ?_⟩
        unfold Oper.wp
        go_simp
        exact hK _ _ (Below.refl _ _) rfl
      · obtain rfl := Option.some.inj ho
        have f28 : ac.tmps.getD 28 undef = .slice a len cap := hF.fact 3 _ _ rfl rfl (dep hd 3 (by kernel_rfl))
        have f29 : ac.tmps.getD 29 undef = .int .i64 (Q : Int) := hF.fact 4 _ _ rfl rfl (dep hd 4 (by kernel_rfl))
        refine ⟨wanted_free rfl, fun K hK => ?_⟩
        unfold Oper.wp
        go_simp
        exact hK _ _ (Below.refl _ _) rfl
      · obtain rfl := Option.some.inj ho
        have f0 : ac.tmps.getD 0 undef = .slice a len cap := slot hF 0 (by kernel_rfl)
        refine ⟨wanted_free rfl, fun K hK => ?_⟩
        unfold Oper.wp
        go_simp
        exact hK _ _ (Below.refl _ _) rfl
      · obtain rfl := Option.some.inj ho
        have f2 : ac.tmps.getD 2 undef = .int .i64 (Q : Int) := slot hF 2 (by kernel_rfl)
        refine ⟨wanted_free rfl, fun K hK => ?_⟩
        unfold Oper.wp
        go_simp
        exact hK _ _ (Below.refl _ _) rfl
      · obtain rfl := Option.some.inj ho
        have f1 : ac.tmps.getD 1 undef = .int .i64 (P : Int) := slot hF 1 (by kernel_rfl)
        refine ⟨wanted_free rfl, fun K hK => ?_⟩
        unfold Oper.wp
        go_simp
        exact hK _ _ (Below.refl _ _) rfl
      · obtain rfl := Option.some.inj ho
        have f31 : ac.tmps.getD 31 undef = .slice a len cap := hF.fact 6 _ _ rfl rfl (dep hd 6 (by kernel_rfl))
        have f32 : ac.tmps.getD 32 undef = .int .i64 (Q : Int) := hF.fact 7 _ _ rfl rfl (dep hd 7 (by kernel_rfl))
        have f33 : ac.tmps.getD 33 undef = .int .i64 (P : Int) := hF.fact 8 _ _ rfl rfl (dep hd 8 (by kernel_rfl))
        refine ⟨wanted_free rfl, fun K hK => ?_⟩
        exact wp_slice_cut 23 (.tmp 31) (.tmp 32) (.tmp 33) rfl 5 Tryd.underlying23 info5s a len cap Q P f31 f32 f33 hQP hPc (hK _ _ (Below.refl _ _) rfl)
      · obtain rfl := Option.some.inj ho
        have f0 : ac.tmps.getD 0 undef = .slice a len cap := slot hF 0 (by kernel_rfl)
        refine ⟨wanted_free rfl, fun K hK => ?_⟩
        unfold Oper.wp
        go_simp
        exact hK _ _ (Below.refl _ _) rfl
      · obtain rfl := Option.some.inj ho
        have f1 : ac.tmps.getD 1 undef = .int .i64 (P : Int) := slot hF 1 (by kernel_rfl)
        refine ⟨wanted_free rfl, fun K hK => ?_⟩
        unfold Oper.wp
        go_simp
        exact hK _ _ (Below.refl _ _) rfl
      · obtain rfl := Option.some.inj ho
        have f35 : ac.tmps.getD 35 undef = .slice a len cap := hF.fact 10 _ _ rfl rfl (dep hd 10 (by kernel_rfl))
        have f36 : ac.tmps.getD 36 undef = .int .i64 (P : Int) := hF.fact 11 _ _ rfl rfl (dep hd 11 (by kernel_rfl))
        refine ⟨wanted_free rfl, fun K hK => ?_⟩
        exact wp_slice_from 23 (.tmp 35) (.tmp 36) rfl 5 Tryd.underlying23 info5s a len cap P f35 f36 hPl (hK _ _ (Below.refl _ _) rfl)
      · obtain rfl := Option.some.inj ho
        have f30 : ac.tmps.getD 30 undef = .slice a Q cap := hF.fact 5 _ _ rfl rfl (dep hd 5 (by kernel_rfl))
        have f34 : ac.tmps.getD 34 undef = .slice (cutAddr a cap Q) (P - Q) (cap - Q) := hF.fact 9 _ _ rfl rfl (dep hd 9 (by kernel_rfl))
        have f37 : ac.tmps.getD 37 undef = .slice (cutAddr a cap P) (len - P) (cap - P) := hF.fact 12 _ _ rfl rfl (dep hd 12 (by kernel_rfl))
        refine ⟨wanted_free rfl, fun K hK => ?_⟩
        have q30 := getq f30
        have q34 := getq f34
        have q37 := getq f37
        unfold Oper.wp
        go_simp
        exact hK _ _ (alloc_below _ _) ⟨_, rfl, five_rows _ _ _ _ _ _ _ (hm.below hF.cls) hn hQP hPl⟩
      · obtain rfl := Option.some.inj ho
        obtain ⟨x, f38, hx⟩ : ∃ x, ac.tmps.getD 38 undef = .slice x 5 5 ∧ RowsV wc x 5 5 [m.take Q, [], (m.take P).drop Q, m.drop P, []] := hF.fact 13 _ _ rfl rfl (dep hd 13 (by kernel_rfl))
        refine ⟨wanted_free rfl, fun K hK => ?_⟩
        unfold Oper.wp
        go_simp
        refine (sum_any _ _ _ [m.take Q, [], (m.take P).drop Q, m.drop P, []] _ hx (hTW.below hF.cls) (by rw [five_flat m P Q hQP]; omega)).mono ?_
        rintro e w' ⟨rfl, hB⟩
        exact hK _ _ hB (by rw [five_flat m P Q hQP]; rfl)
      · obtain rfl := Option.some.inj ho
        have f27 : ac.tmps.getD 27 undef = .agg (dig m) := hF.fact 2 _ _ rfl rfl (dep hd 2 (by kernel_rfl))
        have f39 : ac.tmps.getD 39 undef = .agg (dig m) := hF.fact 14 _ _ rfl rfl (dep hd 14 (by kernel_rfl))
        refine ⟨wanted_free rfl, fun K hK => ?_⟩
        unfold Oper.wp
        go_simp
        exact hK _ _ (Below.refl _ _) rfl
      · obtain rfl := Option.some.inj ho
        have f40 : ac.tmps.getD 40 undef = .bool true := hF.fact 15 _ _ rfl rfl (dep hd 15 (by kernel_rfl))
        refine ⟨wanted_free rfl, fun K hK => ?_⟩
        unfold Oper.wp
        go_simp
        exact hK _ _ (Below.refl _ _) rfl
      · obtain rfl := Option.some.inj ho
        have fg : ac.tmps.getD 41 undef = .bool true := hF.fact 16 _ _ rfl rfl (dep hd 16 (by kernel_rfl))
        refine ⟨wanted_true (g := 16) rfl rfl rfl fg, fun K hK => ?_⟩
        unfold Oper.wp
        go_simp
        refine (sum_any _ _ _ [] _ (rowsV_nil _) (hTW.below hF.cls) (by decide)).mono ?_
        rintro e w' ⟨rfl, hB⟩
        exact hK _ _ hB (by rw [flat_nil]; rfl)
      · obtain rfl := Option.some.inj ho
        have fg : ac.tmps.getD 41 undef = .bool true := hF.fact 16 _ _ rfl rfl (dep hd 16 (by kernel_rfl))
        refine ⟨wanted_true (g := 16) rfl rfl rfl fg, fun K hK => ?_⟩
        unfold Oper.wp
        go_simp
        exact hK _ _ (alloc_below _ _) ⟨_, rfl, two_rows _⟩
      · obtain rfl := Option.some.inj ho
        obtain ⟨x, f43, hx⟩ : ∃ x, ac.tmps.getD 43 undef = .slice x 2 2 ∧ RowsV wc x 2 2 [[], []] := hF.fact 18 _ _ rfl rfl (dep hd 18 (by kernel_rfl))
        have fg : ac.tmps.getD 41 undef = .bool true := hF.fact 16 _ _ rfl rfl (dep hd 16 (by kernel_rfl))
        refine ⟨wanted_true (g := 16) rfl rfl rfl fg, fun K hK => ?_⟩
        unfold Oper.wp
        go_simp
        refine (sum_any _ _ _ [[], []] _ hx (hTW.below hF.cls) (by decide)).mono ?_
        rintro e w' ⟨rfl, hB⟩
        exact hK _ _ hB (by rw [flat_two]; rfl)
      · obtain rfl := Option.some.inj ho
        have f42 : ac.tmps.getD 42 undef = .agg (dig []) := hF.fact 17 _ _ rfl rfl (dep hd 17 (by kernel_rfl))
        have f44 : ac.tmps.getD 44 undef = .agg (dig []) := hF.fact 19 _ _ rfl rfl (dep hd 19 (by kernel_rfl))
        have fg : ac.tmps.getD 41 undef = .bool true := hF.fact 16 _ _ rfl rfl (dep hd 16 (by kernel_rfl))
        refine ⟨wanted_true (g := 16) rfl rfl rfl fg, fun K hK => ?_⟩
        unfold Oper.wp
        go_simp
        exact hK _ _ (Below.refl _ _) rfl
      · obtain rfl := Option.some.inj ho
        have f41 : ac.tmps.getD 41 undef = .bool true := hF.fact 16 _ _ rfl rfl (dep hd 16 (by kernel_rfl))
        have f45 : ac.tmps.getD 45 undef = .bool true := hF.fact 20 _ _ rfl rfl (dep hd 20 (by kernel_rfl))
        refine ⟨wanted_free rfl, fun K hK => ?_⟩
        unfold Oper.wp
        go_simp
        exact hK _ _ (Below.refl _ _) rfl
      · obtain rfl := Option.some.inj ho
        have f46 : ac.tmps.getD 46 undef = .bool true := hF.fact 21 _ _ rfl rfl (dep hd 21 (by kernel_rfl))
        refine ⟨wanted_free rfl, fun K hK => ?_⟩
        unfold Oper.wp
        go_simp
        exact hK _ _ (Below.refl _ _) rfl
      · obtain rfl := Option.some.inj ho
        have fg : ac.tmps.getD 47 undef = .bool true := hF.fact 22 _ _ rfl rfl (dep hd 22 (by kernel_rfl))
        refine ⟨wanted_true (g := 22) rfl rfl rfl fg, fun K hK => ?_⟩
        unfold Oper.wp
        go_simp
        refine (wakes_any _ (hTW.below hF.cls)).mono ?_
        rintro e w' ⟨rfl, hB⟩
        exact hK _ _ hB rfl
      · obtain rfl := Option.some.inj ho
        have f47 : ac.tmps.getD 47 undef = .bool true := hF.fact 22 _ _ rfl rfl (dep hd 22 (by kernel_rfl))
        have f48 : ac.tmps.getD 48 undef = .bool true := hF.fact 23 _ _ rfl rfl (dep hd 23 (by kernel_rfl))
        refine ⟨wanted_free rfl, fun K hK => ?_⟩
        unfold Oper.wp
        go_simp
        exact hK _ _ (Below.refl _ _) rfl
      · obtain rfl := Option.some.inj ho
        have f49 : ac.tmps.getD 49 undef = .bool true := hF.fact 24 _ _ rfl rfl (dep hd 24 (by kernel_rfl))
        refine ⟨wanted_free rfl, fun K hK => ?_⟩
        unfold Oper.wp
        go_simp
        exact hK _ _ (Below.refl _ _) rfl
      · cases ho
    · intro L ac wc hL hF
      have hb := hF.cls
      have f6 : ac.tmps.getD 6 undef = .bool true := hF.fact 25 _ 6 rfl rfl (hL 25 (by decide))
      go_wp2
      exact bodyPost_ret (results_tmp rfl _ _ _) hF.defers ⟨by rw [f6], hb⟩
end Go.Proofs.YtbofcnmhdjleeaaDoor
