/- For every whole number the law CborMany answers true, and its arguments read as before: as many tokens as may be are a row, one more is none. No condition beside the row's own. -/
import Derived.Test.YtaabcllghniaoabDoorCV
import Derived.Test.YtaabcllghniaoabDoorCQ
import Derived.Test.YtaabcllghniaoabDoorCL
import Derived.Test.YtaabcllghniaoabDoorRT
import Derived.Test.YtaabcllghniaoabDoorRU
import Derived.Test.YtaabcllghniaoabDoorWJ
namespace Go.Proofs.YtaabcllghniaoabDoor
open Go Go.RowKit
/-- Arrays of sixty, one behind the other, of so many tokens in all. -/
def mrow : Nat → Nat → List Tk
  | 0, _ => []
  | f + 1, left => if left = 0 then [] else ⟨5, ((min (left - 1) 60 : Nat) : Int), []⟩ :: (List.replicate (min (left - 1) 60) ⟨1, 0, []⟩ ++ mrow f (left - 1 - min (left - 1) 60))
def marr : Nat → Nat → Nat
  | 0, _ => 0
  | f + 1, left => if left = 0 then 0 else 1 + marr f (left - 1 - min (left - 1) 60)
theorem mrow_zero (f : Nat) : mrow f 0 = [] := by cases f <;> rfl
theorem marr_zero (f : Nat) : marr f 0 = 0 := by cases f <;> rfl
theorem mrow_length : ∀ (f left : Nat), left ≤ f → (mrow f left).length = left
  | 0, left, h => by rw [mrow]; simp; omega
  | f + 1, left, h => by
    rw [mrow]
    by_cases h0 : left = 0
    · rw [if_pos h0, h0]; rfl
    · rw [if_neg h0, List.length_cons, List.length_append, List.length_replicate, mrow_length f _ (by omega)]
      omega
set_option maxRecDepth 1000000 in
theorem many_ok : (enc (⟨5, 10, []⟩ :: mrow 600 599)).isSome = true := by decide +kernel
theorem marr_599 : marr 600 599 = 10 := by decide +kernel
theorem marr_600 : marr 600 600 = 10 := by decide +kernel
theorem own_tok1 {w : World} {base : Nat} {k n : Int} (hb : base ≤ w.heap.size) (hwf : (⟨k, n, []⟩ : Tk).wf) : OwnToks (w.alloc (.cells #[.int .i64 k, .int .i64 n, .slice none 0 0] 30)) base (.slice (some ⟨w.heap.size, 0, none⟩) 1 1) [⟨k, n, []⟩] := by
  refine ⟨[.slice none 0 0], ⟨rfl, .inr ⟨w.heap.size, 1, #[.int .i64 k, .int .i64 n, .slice none 0 0], rfl, hb, own_new _ _ _, Nat.le_refl _, by decide, rfl, rfl⟩⟩, rfl, fun i t u ht hu => ?_⟩
  have hi := (List.getElem?_eq_some_iff.1 ht).1
  simp only [List.length_cons, List.length_nil] at hi
  obtain rfl : i = 0 := by omega
  obtain rfl := Option.some.inj ht
  obtain rfl := Option.some.inj hu
  exact ⟨hwf, ⟨none, 0, rfl, txt_nil _⟩, fun h => absurd h (Nat.lt_irrefl 0)⟩
theorem small_wf {k n : Nat} (hk : k ≤ 5) (hn : n ≤ 1000) : (⟨(k : Int), (n : Int), []⟩ : Tk).wf := by
  refine ⟨⟨?_, ?_⟩, ?_, ?_⟩ <;> simp only <;> omega
theorem mrow_b : ∀ (f left : Nat) (t : Tk), t ∈ mrow f left → t.b = []
  | 0, _, t, h => by cases h
  | f + 1, left, t, h => by
    rw [mrow] at h
    split at h
    · cases h
    · rcases List.mem_cons.1 h with rfl | h
      · rfl
      rcases List.mem_append.1 h with h | h
      · rw [(List.mem_replicate.1 h).2]
      · exact mrow_b f _ t h
set_option maxRecDepth 100000 in
set_option maxHeartbeats 4000000 in
theorem cmany_is {T : World → Prop} (F : Cbor T) {over : Int} {w : World} (hT : T w) : Calls Tryd.prog 5 #[.int .i64 over] w fun e w' => e = .returned (.bool true) ∧ Below w.heap.size w w' := by
  have hwk := show Hid _ from cwakes F
  obtain ⟨r, Hr, hr⟩ := left_of over 2 (by decide) (by decide)
  have Hr : wrap64 ((IntKind.u64.wrap over).tmod 2) = (r : Int) := Hr
  have hr0 : (0 : Int) ≤ (r : Int) := by omega
  have hr2 : (r : Int) < 2 := by omega
  obtain ⟨n, Hn⟩ : ∃ n, Hid (599 + r = n) := ⟨_, rfl⟩
  have hnc : (599 : Int) + (r : Int) = (n : Int) := by have := Hn.out; omega
  have hn6 : n ≤ 600 := by have := Hn.out; omega
  go_enter Tryd.func5, Tryd.ntmps5
  go_upto_region 5 with fail
  rw [Hr]
  go_loopw [3, 4, 5] (fun lv mv av wr => ∃ (f m k : Nat) (l : List Tk) (al : Option Addr) (cl : Nat), m ≤ f ∧ mv = .int .i64 (m : Int) ∧ av = .int .i64 (k : Int) ∧ lv = .slice al l.length cl ∧ Hid (OwnToks wr w.heap.size (.slice al l.length cl) l) ∧ Hid (l ++ mrow f m = mrow 600 n) ∧ Hid (k + marr f m = marr 600 n) ∧ l.length + m = n ∧ k ≤ l.length ∧ Below w.heap.size w wr) (fun _ mv _ _ => (intOf mv).toNat)
  case atStart => exact ⟨600, n, 0, [], none, 0, hn6, rfl, rfl, rfl, ownToks_nil _ _, rfl, Nat.zero_add _, by simp, Nat.le_refl _, Below.refl _ _⟩
  case round =>
    obtain ⟨f, m, k, l, al, cl, hmf, rfl, rfl, rfl, hO, hrow, harr, hlm, hkl, hB⟩ := hrel
    by_cases hm0 : m = 0
    · subst hm0
      rw [mrow_zero, List.append_nil] at hrow
      rw [marr_zero, Nat.add_zero] at harr
      have hrc : r = 0 ∨ r = 1 := by omega
      have hk10 : k = 10 := by
        rw [harr.out, ← Hn.out]
        rcases hrc with rfl | rfl
        · exact marr_599
        · exact marr_600
      have hkc : (k : Int) = 10 := by rw [hk10]; rfl
      rw [hkc]
      obtain ⟨al', cl', el, hTl⟩ := hO.out.form
      simp only [Value.slice.injEq, true_and] at el
      obtain ⟨rfl, rfl⟩ := el
      have hTl : Hid (ToksP (fun g => g < wr.heap.size) wr al cl l) := hTl.mono (Q := fun g => g < wr.heap.size) (fun g _ h => h)
      have hwf : Hid ((⟨5, 10, []⟩ : Tk).wf) := small_wf (k := 5) (n := 10) (by decide) (by decide)
      have hll : (l.length : Int) ≤ 600 := by omega
      go_upto_region 15 with (at_builtin; refine wpList_tokapp (by rfl) (.tmp 48) (.tmp 49) (by rfl) w.heap.size (by rfl) (own_tok1 hB.size hwf.out) (by rfl) rfl (ToksP.below hTl.out (alloc_below _ _)) (fun g' hg' g hg => by obtain rfl : g = wr.heap.size := (by simpa [blks] using hg); exact Nat.ne_of_lt hg') (by simp only [List.length_cons, List.length_nil]; omega) (hB.alloc hB.size _).size ?_; intro a5 c5 w5 hO5 hb5)
      have hB5 := (hB.alloc hB.size (.cells #[.int .i64 5, .int .i64 10, .slice none 0 0] 30)).trans hb5
      obtain ⟨M, HM⟩ : ∃ M, Hid ([(⟨5, 10, []⟩ : Tk)] ++ l = M) := ⟨_, rfl⟩
      have hML : [(⟨5, 10, []⟩ : Tk)].length + l.length = M.length := by rw [← HM.out, List.length_append]
      rw [HM.out, hML] at hO5
      have hML1 : 1 + l.length = M.length := hML
      rw [hML1]
      have hMl : Hid (M.length = 600 + r) := by show _ = _; rw [← hML]; have := Hn.out; simp only [List.length_cons, List.length_nil]; omega
      have hlight : Hid (Light M) := ⟨by rw [hMl.out]; omega, fun t ht => by
        rw [← HM.out] at ht
        rcases List.mem_append.1 ht with h | h
        · rw [List.mem_singleton.1 h]; decide
        · rw [hrow.out] at h
          rw [mrow_b _ _ _ h]; decide⟩
      obtain ⟨a6, c6, e6, hT5⟩ := hO5.form
      simp only [Value.slice.injEq, true_and] at e6
      obtain ⟨rfl, rfl⟩ := e6
      clear hO5 hb5 hTl
      have hE := show Hid _ from F.encode a5 c5 M hlight.out w5 (F.keep _ _ hT hB5) hT5
      go_wp2_with fail
      refine Calls.mono (Hid.out hE) ?_
      rintro e w6 ⟨hS, hb6⟩
      have hB6 := hB5.trans (hb6.mono hB5.size)
      have hT6 := hT5.below hb6
      clear hE
      have hP := show Hid _ from pencode_is hT6 hlight.out
      have hMc : ((M.length : Int) != 600 + (r : Int)) = false := by rw [bne_eq_false_iff_eq]; have := hMl.out; omega
      have hM2 : (M.length : Int) ≤ 601 := by have := hMl.out; omega
      rcases hrc with rfl | rfl
      · have hyes : Hid ((enc M).isSome = true) := by
          show _ = _
          rw [← HM.out, hrow.out, ← Hn.out]
          exact many_ok
        rcases hS with ⟨hn, -⟩ | ⟨X, a7, c7, hx, rfl, hO6, hBx⟩
        · have := hyes.out; rw [hn] at this; cases this
        have hx := show Hid _ from hx
        have hX6 := (txt_same hO6 hBx).2
        have hXl := (enc_some hx.out).2.2
        go_wp2_with fail
        refine Calls.mono (Hid.out hP) ?_
        rintro e w7 ⟨⟨hn, -⟩ | ⟨X', a8, c8, hx', rfl, hO7, hBx'⟩, hb7⟩
        · rw [hx.out] at hn; cases hn
        obtain rfl : X' = X := Option.some.inj (hx'.symm.trans hx.out)
        clear hx'
        have hX7 := (txt_same hO7 hBx').2
        have hB7 := hB6.trans (hb7.mono hB6.size)
        have hX6' := hX6.below hb7
        have hT7 := hT6.below hb7
        have hD := show Hid _ from F.decode a7 c7 X' (by omega) w7 (F.keep _ _ hT hB7) hX6'
        go_wp2_with fail
        refine Calls.mono (Hid.out hD) ?_
        rintro e w8 ⟨⟨hn, -⟩ | ⟨k, a9, c9, hk, rfl, hT8⟩, hb8⟩
        · rw [dec_iff.2 hx.out] at hn; cases hn
        obtain rfl : k = M := Option.some.inj (hk.symm.trans (dec_iff.2 hx.out))
        clear hk hD
        have hB8 := hB7.trans (hb8.mono hB7.size)
        go_wp2_with fail
        refine (bytes_tx (hX6'.below hb8) (hX7.below hb8)).mono ?_
        rintro e w9 ⟨rfl, hb9⟩
        rw [decide_eq_true rfl]
        have hB9 := hB8.trans (hb9.mono hB8.size)
        go_wp2_with fail
        refine (toks_cmp (hT8.below hb9) ((hT7.below hb8).below hb9)).mono ?_
        rintro e w10 ⟨rfl, hb10⟩
        rw [decide_eq_true rfl]
        have hB10 := hB9.trans (hb10.mono hB9.size)
        go_wp2_with fail
        refine (hwk.out w10 (F.keep _ _ hT hB10)).mono ?_
        rintro e w11 ⟨rfl, hb11⟩
        go_wp2_with fail
        go_ret
        exact ⟨rfl, hB10.trans (hb11.mono hB10.size)⟩
      · have hno : Hid (enc M = none) := by
          show _ = _
          unfold enc
          rw [if_pos (by rw [hMl.out]; decide)]
        rcases hS with ⟨-, a7, c7, rfl, hX6⟩ | ⟨X, _, _, hx, -⟩
        rotate_left
        · rw [hno.out] at hx; cases hx
        go_wp2_with fail
        refine Calls.mono (Hid.out hP) ?_
        rintro e w7 ⟨⟨-, rfl⟩ | ⟨X, _, _, hx, -⟩, hb7⟩
        rotate_left
        · rw [hno.out] at hx; cases hx
        have hB7 := hB6.trans (hb7.mono hB6.size)
        go_wp2_with fail
        refine (hwk.out w7 (F.keep _ _ hT hB7)).mono ?_
        rintro e w8 ⟨rfl, hb8⟩
        go_wp2_with fail
        go_ret
        exact ⟨rfl, hB7.trans (hb8.mono hB7.size)⟩
    · have hmp : (0 : Int) < (m : Int) := by omega
      cases f with
      | zero => omega
      | succ f =>
      rw [mrow, if_neg hm0] at hrow
      rw [marr, if_neg hm0] at harr
      obtain ⟨s, Hs⟩ : ∃ s, Hid (min (m - 1) 60 = s) := ⟨_, rfl⟩
      rw [Hs.out] at hrow harr
      have hs60 : s ≤ 60 := by have := Hs.out; omega
      have hsm : s ≤ m - 1 := by have := Hs.out; omega
      have hll : (l.length : Int) ≤ 600 := by omega
      have hmm : (m : Int) ≤ 600 := by omega
      have hmin : (if (60 : Int) < (m : Int) - 1 then (60 : Int) else (m : Int) - 1) = (s : Int) := by have := Hs.out; split <;> omega
      go_upto_region 7 with fail
      have hwf : Hid ((⟨5, (s : Int), []⟩ : Tk).wf) := small_wf (k := 5) (n := s) (by decide) (by omega)
      have hwf1 : Hid ((⟨1, 0, []⟩ : Tk).wf) := small_wf (k := 1) (n := 0) (by decide) (by decide)
      clear hmin
      go_upto_region 9 with (at_builtin; refine wpList_tokapp (by rfl) (.tmp 26) (.tmp 29) (by rfl) w.heap.size (by rfl) (OwnToks.below hO.out (alloc_below _ _)) (by rfl) (show 1 = [(⟨5, (s : Int), []⟩ : Tk)].length from rfl) (toks_one (t := (⟨5, (s : Int), []⟩ : Tk)) (P := fun _ => False) (own_new _ _ _) hwf.out ⟨none, 0, rfl, txt_nil _⟩ (fun h => absurd h (Nat.lt_irrefl 0))) (fun _ h => h.elim) (by simp only [List.length_cons, List.length_nil]; omega) (hB.alloc hB.size _).size ?_; intro a5 c5 w5 hO5 hb5)
      have hB5 := (hB.alloc hB.size (.cells #[.int .i64 5, .int .i64 (s : Int), .slice none 0 0] 30)).trans hb5
      go_loopw [3, 7] (fun lv jv wr => ∃ (j : Nat) (lj : List Tk) (aj : Option Addr) (cj : Nat), j ≤ s ∧ jv = .int .i64 (j : Int) ∧ lv = .slice aj lj.length cj ∧ Hid (OwnToks wr w.heap.size (.slice aj lj.length cj) lj) ∧ Hid (lj = l ++ ⟨5, (s : Int), []⟩ :: List.replicate j ⟨1, 0, []⟩) ∧ lj.length = l.length + 1 + j ∧ Below w.heap.size w wr) (fun _ jv _ => s - (intOf jv).toNat)
      case atStart =>
        have e : l.length + 1 = (l ++ [(⟨5, (s : Int), []⟩ : Tk)]).length := by rw [List.length_append]; rfl
        refine ⟨0, l ++ [(⟨5, (s : Int), []⟩ : Tk)], a5, c5, Nat.zero_le _, rfl, by rw [← e], ?_, (rfl : l ++ [(⟨5, (s : Int), []⟩ : Tk)] = l ++ (⟨5, (s : Int), []⟩ : Tk) :: List.replicate 0 (⟨1, 0, []⟩ : Tk)), by rw [← e], hB5⟩
        rw [← e]
        exact hO5
      case round =>
        obtain ⟨j, lj, aj, cj, hjs, rfl, rfl, hOj, hlj, hljl, hBj⟩ := hrel
        have hljb : (lj.length : Int) ≤ 700 := by omega
        by_cases hj : j < s
        · have hj' : (j : Int) < (s : Int) := by omega
          go_wp2_with (at_builtin; refine wpList_tokapp (by rfl) (.tmp 36) (.tmp 38) (by rfl) w.heap.size (by rfl) (OwnToks.below hOj.out (alloc_below _ _)) (by rfl) (show 1 = [(⟨1, 0, []⟩ : Tk)].length from rfl) (toks_one (t := (⟨1, 0, []⟩ : Tk)) (P := fun _ => False) (own_new _ _ _) hwf1.out ⟨none, 0, rfl, txt_nil _⟩ (fun h => absurd h (Nat.lt_irrefl 0))) (fun _ h => h.elim) (by simp only [List.length_cons, List.length_nil]; omega) (hBj.alloc hBj.size _).size ?_; intro a6 c6 w6 hO6 hb6)
          go_roundw
          case rel =>
            have e : lj.length + 1 = (lj ++ [(⟨1, 0, []⟩ : Tk)]).length := by rw [List.length_append]; rfl
            refine ⟨j + 1, lj ++ [⟨1, 0, []⟩], a6, c6, by omega, by push_cast; rfl, by rw [← e, hljl], ?_, ?_, by rw [← e]; omega, (hBj.alloc hBj.size _).trans hb6⟩
            · rw [← e]
              exact hO6
            · show _ = _
              rw [hlj.out, List.replicate_succ']
              simp
          case measure => simp only [intOf, Int.toNat_natCast]; omega
        · obtain rfl : j = s := by omega
          have hj' : ¬ (j : Int) < (j : Int) := Int.lt_irrefl _
          go_wp2_with fail
          go_roundw
          case rel =>
            refine ⟨f, m - 1 - j, k + 1, lj, aj, cj, by omega, by congr 1; omega, by push_cast; rfl, rfl, hOj, ?_, ?_, by omega, by omega, hBj⟩
            · show _ = _
              rw [← hrow.out, hlj.out]
              simp
            · show _ = _
              rw [← harr.out, Nat.add_assoc]
          case measure => simp only [intOf, Int.toNat_natCast]; omega
end Go.Proofs.YtaabcllghniaoabDoor

namespace Go.Proofs.YtaabcllghniaoabDoor
open Go Go.RowKit
theorem cmany_row {n : Int} {w : World} (_ : (Lit.int .i64 n).wf = true) (hT : TU w) : Calls Tryd.prog 5 #[.int .i64 n] w fun e w' => e = .returned (.bool true) ∧ Below w.heap.size w w' :=
  cmany_is wcbor hT
end Go.Proofs.YtaabcllghniaoabDoor

namespace Go.Proofs.YtaabcllghniaoabDoor
namespace cborMany
open Go.ChangeShapes Go.WideShapes Go.ChangeAt Go.RowKit
/-- The cells of a block, laid anew. -/
def relay (A : Array Value) : Obj → Obj
  | .cells _ t frozen => .cells A t frozen
  | o => o
/-- A world for the witness: the settled one, the listed variables holding what their initialisers lay. -/
noncomputable def laidWorld (os : Os) : World :=
  { World.holding Tryd.prog os ⟨#[], #[], []⟩ with heap := ((World.holding Tryd.prog os ⟨#[], #[], []⟩).heap.modify 0 (relay (fstL.map (Value.int .u8)).toArray)).modify 1 (relay ((List.range 16).flatMap fun k => [Value.int .u8 (ulo k : Int), Value.int .u8 (uhi k : Int)]).toArray) }

set_option maxRecDepth 100000 in
theorem contract (H : Type) (enc : TypeId × Value → H) (W : World) (base : Nat) (args : Array Value) (ds gs : List (DataW H)) (before : List MemPlace)
    (hval : ∀ (j : Nat) t v, Tryd.f5.params[j]? = some t → args[j]? = some v → Value.okWide Tryd.prog W .any base t v)
    (hW : DataW.Whole enc Tryd.prog Tryd.f5.params.toList Rows.cborManySpec.vars false W args.toList ds gs before) (hL : laidMetH Tryd.prog Rows.cborManyRow.laid W) :
    Calls Tryd.prog 5 args W fun e W' => ∃ v, e = .returned v ∧ Rows.cborManySpec.post enc Tryd.prog Tryd.f5 false true false false W args v W' := by
  have hW' := hW
  obtain ⟨p, q, hA0, hV, rfl, hfz, hnd⟩ := hW
  have hA : DataW.TrodAll enc Tryd.prog W 0 (fun _ => true) true Tryd.f5.params.toList args.toList ds p := hA0
  rw [Tryd.params5] at hA hval
  obtain ⟨v0, vs0, d0, ds0, p0, q0, hargs, rfl, rfl, h0, r0⟩ := trodAll_cons hA
  obtain ⟨rfl, rfl, rfl⟩ := trodAll_nil r0
  obtain rfl : args = #[v0] := by cases args; simp_all
  obtain ⟨rfl, rfl⟩ := trodVars_none hV
  obtain ⟨a0, rfl, rfl, rfl, w0⟩ := open_int Tryd.underlying3 (hval 0 3 v0 rfl rfl) h0
  clear hA0
  refine (cmany_row w0 (tu_of hL)).mono fun e W' ⟨he, bel⟩ => ?_
  subst he
  exact ⟨_, rfl, _, _, _, [], _, [], hW', trodAll_mk1 (shut_bool Tryd.underlying4 _), (trodAll_cons_mk (shut_int Tryd.underlying3 w0) trodAll_mk0), rfl, bel.frame _, fun h => by cases h⟩

set_option maxRecDepth 100000 in
theorem laid_met (os : Os) : laidMet Tryd.prog Rows.cborManyRow.laid ((laidWorld os).forCall (fun _ _ => 0) ⟨#[], #[.int .i64 0], []⟩).memory :=
  laidMet_of_run' 8 (by kernel_rfl) (by kernel_rfl)
set_option maxRecDepth 100000 in
theorem reads (os : Os) {H : Type} (enc : TypeId × Value → H) : ∃ places, DataW.whole enc Tryd.prog ((laidWorld os).forCall (fun _ _ => 0) ⟨#[], #[.int .i64 0], []⟩).memory Tryd.f5.params.toList Rows.cborManySpec.vars false #[Value.int .i64 0].toList 8 = some ([.lit (.int .i64 0)], [], places) :=
  ⟨[], by kernel_rfl⟩

set_option maxRecDepth 100000 in
theorem lifted (os : Os) (started : os.Started) (H : Type) (enc : TypeId × Value → H) (F : Stop.Interp) :
    ReturnsInHanded {} Tryd.checked os 5 .any ((OpenSpec.ofChange Rows.cborManySpec).preRow enc Tryd.prog Tryd.f5 Rows.cborManyRow.domain false Rows.cborManyRow.laid) (((OpenSpec.ofChange Rows.cborManySpec).at F).post enc Tryd.prog Tryd.f5 false true false false) := by
  obtain ⟨places, hx⟩ := reads os enc
  refine returnsInHanded_of_row (C := Tryd.checked) (s := OpenSpec.ofChange Rows.cborManySpec) own started (by kernel_rfl) Tryd.func5
    (witness_row_at (enc := enc) (C := Tryd.checked) false (laidWorld os) #[.int .i64 0] rfl (by kernel_rfl) (by kernel_rfl) (by kernel_rfl)
      (OpenSpec.preRow_of_cond 8 hx (by kernel_rfl) (fun k hk => by cases hk) (by kernel_rfl) (laid_met os))) ?_
  intro W base args ds gs before hval hW _ _ _ hL _ _
  exact contract H enc W base args ds gs before hval hW hL

theorem said : Rows.CborManySaid :=
  OpenClaim.holds_of_cond 5 Tryd.f5 rfl rfl rfl rfl rfl rfl rfl ⟨rfl, rfl, rfl, rfl, rfl⟩ rfl rfl rfl rfl rfl (by kernel_rfl) Tryd.func5 (by kernel_rfl)
    (of_decide_eq_true (by kernel_rfl)) (by unfold Func.isWrapper; first | (rw [if_pos (by decide +kernel)]; kernel_rfl) | (rw [if_neg (by decide +kernel)]; exact ⟨rfl, rfl⟩))
    (fun os started H enc _ F => by rw [OpenClaim.pre_eq_preRow]; exact lifted os started H enc F)

theorem plain (f : FuncId) (fn : Func) (hf : Tryd.pinned.checked.prog.funcNamed "codicil/codicillaw10.CborMany" = some f) (hfn : Tryd.pinned.checked.prog.funcs[f]? = some fn) :
    false = Tryd.pinned.checked.prog.looks [] ∧ ∀ (j : Nat) t, fn.params[j]? = some t → Tryd.pinned.checked.prog.wantsStandIn t = false := by
  obtain rfl : f = 5 := Option.some.inj ((show Tryd.prog.funcNamed "codicil/codicillaw10.CborMany" = some 5 by kernel_rfl).symm.trans hf) |>.symm
  obtain rfl : fn = Tryd.f5 := (Option.some.inj (Tryd.func5.symm.trans hfn)).symm
  refine ⟨by kernel_rfl, fun j t ht => ?_⟩
  rw [Tryd.params5] at ht
  have : t = 3 := by simpa using Array.mem_of_getElem? ht
  subst this
  exact (show Tryd.prog.wantsStandIn 3 = false by kernel_rfl)

end cborMany
open cborMany in
/-- The card. -/
theorem cborMany_card : Rows.CborManyCardSaid :=
  Claim7.holds_tied_plain_at .later [] _ _ _ _ said (fun _ h => by cases h) (by kernel_rfl) (fun _ h => by cases h) cborMany_row_tie rfl ⟨rfl, rfl⟩ (by kernel_rfl) rfl plain (by kernel_rfl)
#print axioms cborMany_card
end Go.Proofs.YtaabcllghniaoabDoor
