/- The walk of the law ShaLong. -/
import Derived.Test.YtomlekmbkbgnfaaDoorK3
namespace Go.Proofs.YtomlekmbkbgnfaaDoor
open Go.RowKit

/-- A part, k times over. -/
def rep (m : List Int) : Nat → List Int
  | 0 => []
  | k + 1 => rep m k ++ m
theorem rep_length (m : List Int) : ∀ k, (rep m k).length = k * m.length
  | 0 => by simp [rep]
  | k + 1 => by rw [rep, List.length_append, rep_length m k, Nat.succ_mul]
theorem rep_bys {m : List Int} (h : Bys m) : ∀ k, Bys (rep m k)
  | 0 => fun x hx => by simp [rep] at hx
  | k + 1 => fun x hx => (List.mem_append.1 hx).elim (rep_bys h k x) (h x)
theorem left_hundred (x : Int) : ∃ r : Nat, wrap64 ((IntKind.u64.wrap x).tmod 100) = (r : Int) ∧ r ≤ 99 := by
  obtain ⟨r, h1, h2⟩ := left_over x 99 (by decide)
  exact ⟨r, h1, h2⟩

set_option maxRecDepth 100000 in
set_option maxHeartbeats 2000000 in
theorem long_any (a : Option Addr) (len cap : Nat) (m : List Int) (p : Int) (w : World) (hm : BytesV w a len cap m) (hcap : a = none → cap = 0) (hT : Tabs w) :
    Calls Tryd.prog 6 #[.slice a len cap, .int .i64 p] w fun e w' => e = .returned (.bool true) ∧ Below w.heap.size w w' := by
  by_cases hlen : 100 < len
  · have hi : (100 : Int) < (len : Int) := by omega
    go_enter Tryd.func6, Tryd.ntmps6
    go_wp2_with fail
    go_ret
    exact ⟨rfl, Below.refl _ _⟩
  · have hi : ¬ (100 : Int) < (len : Int) := by omega
    have hl1 : len ≤ 100 := by omega
    have hlm : len = m.length := hm.1
    subst hlm
    obtain ⟨n, hP, hn⟩ := left_hundred p
    have HP := show Hid _ from hP
    clear hP hlen
    go_enter Tryd.func6, Tryd.ntmps6
    go_upto_region 4 with fail
    rw [HP.out]
    have hni : (n : Int) ≤ 99 := by omega
    clear HP
    go_wp2_with fail
    refine (new_any _).mono ?_
    rintro e w1 ⟨rfl, hS1, hb1, hlt1⟩
    obtain ⟨s, Hs⟩ : ∃ s, Hid (s = w.heap.size) := ⟨_, rfl⟩
    have hsz : w.heap.size ≤ s := by rw [Hs.out]; exact Nat.le_refl _
    have hgs : 1 < s := by rw [Hs.out]; exact hT.1.1
    rw [← Hs.out] at hS1 hlt1
    rw [show (some ⟨w.heap.size, 0, none⟩ : Option Addr) = some ⟨s, 0, none⟩ from by rw [Hs.out]]
    clear Hs
    go_wp2_with fail
    go_loopw [6, 7] (fun v i wr => ∃ (k : Nat) (a' : Option Addr) (cap' : Nat), k ≤ n ∧ i = .int .i64 k ∧ v = .slice a' (k * m.length) cap' ∧ OwnBytes wr (s + 1) (.slice a' (k * m.length) cap') (rep m k) ∧ BytesV wr a' (k * m.length) cap' (rep m k) ∧ ShaAt wr s (rep m k) ∧ Below w.heap.size w wr) (fun _ i _ => n - (intOf i).toNat)
    case atStart =>
      refine ⟨0, none, 0, Nat.zero_le _, rfl, by rw [Nat.zero_mul], ?_, ?_, hS1, hb1⟩
      · rw [Nat.zero_mul]; exact ownBytes_nil _ _
      · rw [Nat.zero_mul]; exact ⟨rfl, Nat.le_refl _, by decide, fun x hx => by simp [rep] at hx, fun hp => absurd hp (by decide)⟩
    case round =>
      clear hS1 hb1 hlt1
      obtain ⟨k, a', cap', hk, rfl, rfl, hO, hV, hS, hb⟩ := hrel
      have hrl := rep_length m k
      have hkm : k * m.length ≤ 9900 := Nat.mul_le_mul (show k ≤ 99 by omega) hl1
      by_cases hlt : k < n
      · have hki : (k : Int) < (n : Int) := by omega
        obtain ⟨q, Hq⟩ : ∃ q, Hid (q = k * m.length) := ⟨_, rfl⟩
        rw [← Hq.out]
        rw [← Hq.out] at hO hV hkm hrl
        have HR := show Hid _ from hrl
        clear hrl
        have hT1 := hT.below hb
        have hsl := hm.slice (g := s) hb hsz
        go_wp2_with fail
        refine (write_any s (rep m k) m _ _ _ _ hS hsl hT1 hgs (by have := HR.out; omega)).mono ?_
        rintro e w2 ⟨rfl, hS2, hg2⟩
        have hb2 := belg hb hg2 hsz
        have hO2 := hO.grown hg2 (Nat.lt_succ_self s)
        have hm2 := hm.below hb2
        have hbs : s + 1 ≤ w2.heap.size := hS2.lt
        clear hS hb hg2 hO hV hT1 hsl
        go_wp2_with (at_builtin; refine wpList_append_bytes (by rfl) (.tmp 26) (.tmp 27) (by rfl) (s + 1) (.slice a' q cap') (rep m k) (by rfl) hO2 (rep_bys hm.2.2.2.1 k) a m.length cap m (by rfl) hm2 hcap (by have := HR.out; omega) hbs ?_; intro a3 cap3 w3 hO3 hg3 hV3)
        have e3 : (rep m k).length + m.length = (k + 1) * m.length := by rw [HR.out, Hq.out, Nat.succ_mul]
        rw [e3] at hO3 hV3
        go_roundw
        case rel =>
          have hb3 : Below w.heap.size w w3 := hb2.grown hg3 hb2.size (fun g e => by have := hO2.base_le e; omega)
          have hS3 : ShaAt w3 s (rep m (k + 1)) := by
            obtain ⟨bl, st, tl, htl, btl, ho, hst, hrest⟩ := hS2
            refine ⟨bl, st, tl, htl, btl, ?_, hst, hrest⟩
            unfold Own
            rw [hg3.block s hbs (fun e => by have := hO2.base_le e.symm; omega)]; exact ho
          exact ⟨k + 1, a3, cap3, by omega, by go_num, by rw [e3], hO3, hV3, hS3, hb3⟩
        case measure => simp [intOf]; omega
      · have hki : ¬ (k : Int) < (n : Int) := by omega
        obtain ⟨q, Hq⟩ : ∃ q, Hid (q = k * m.length) := ⟨_, rfl⟩
        rw [← Hq.out]
        rw [← Hq.out] at hO hV hkm hrl
        have HR := show Hid _ from hrl
        clear hrl
        have hT1 := hT.below hb
        have hnn : (rep m k).length ≤ 549755813888 := by rw [HR.out]; omega
        go_wp2_with fail
        refine (len_any s (rep m k) _ hS).mono ?_
        rintro e w2 ⟨rfl, rfl⟩
        rw [HR.out]
        go_wp2_with fail
        refine (sumM_any s (rep m k) _ hS hT1 hnn).mono ?_
        rintro e w3 ⟨rfl, hb3⟩
        rw [show (u8s (digest (rep m k))).toArray = dig (rep m k) from rfl]
        have hb23 := bel hb hb3
        have hV3 := hV.below hb3
        have hT3 := hT.below hb23
        have e1 := dig_eq (rep m k)
        clear hb3 hb hV hO hS hT1
        go_wp2_with fail
        refine (sum_any _ _ _ (rep m k) _ hV3 hT3 hnn).mono ?_
        rintro e w4 ⟨rfl, hb4⟩
        rw [show (u8s (digest (rep m k))).toArray = dig (rep m k) from rfl]
        have hb34 := bel hb23 hb4
        have hT4 := hT.below hb34
        clear hb4 hb23 hV3 hT3
        go_wp2_with fail
        refine (wakes_any _ hT4).mono ?_
        rintro e w5 ⟨rfl, hb5⟩
        go_wp2
        go_ret
        exact ⟨rfl, bel hb34 hb5⟩
end Go.Proofs.YtomlekmbkbgnfaaDoor
