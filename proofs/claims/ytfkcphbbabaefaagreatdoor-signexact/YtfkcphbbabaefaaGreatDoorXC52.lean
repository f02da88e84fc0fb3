/- Of the texts SM1, SM3, SW1, ST1: what the card of this claim reaches. -/
import Derived.Test.YtfkcphbbabaefaaGreatDoorXC49
import Derived.Test.YtfkcphbbabaefaaGreatDoorXC50
import Derived.Test.YtfkcphbbabaefaaGreatDoorXC51
import Derived.Test.YtfkcphbbabaefaaGreatDoorXC47
import Derived.Test.YtfkcphbbabaefaaGreatDoorXC48
import Derived.Test.YtfkcphbbabaefaaGreatDoorXC41
import Derived.Test.YtfkcphbbabaefaaGreatDoorXC39
namespace Go.Proofs.YtfkcphbbabaefaaGreatDoor
open Go Go.RowKit
theorem enc_R7 (P : Pt E5) : enc P < R256 := by rw [R256_HH]; exact enc_lt P
def numOf (n : Nat) : Nat := clamp (dn (by32 n) % R256)
def preOf (n : Nat) : Nat := dn (by32 n) / R256
def pubOf (n : Nat) : Nat := enc (Pt.times (numOf n) BP)
def bindOf (R p : Nat) (m : List Int) : Nat := dn (by32 R ++ (by32 p ++ m)) % LL
def onceOf (n : Nat) (m : List Int) : Nat := dn (by32 (preOf n) ++ m) % LL
def rOf (n : Nat) (m : List Int) : Nat := enc (Pt.times (onceOf n m) BP)
def sOf (n : Nat) (m : List Int) : Nat := (bindOf (rOf n m) (pubOf n) m * numOf n + onceOf n m) % LL
def sigOf (n : Nat) (m : List Int) : Nat := two (rOf n m) (sOf n m)
theorem pubOf_lt (n : Nat) : pubOf n < R256 := enc_R7 _
theorem rOf_lt (n : Nat) (m : List Int) : rOf n m < R256 := enc_R7 _
theorem sOf_lt (n : Nat) (m : List Int) : sOf n m < LL := Nat.mod_lt _ LL_pos
theorem sOf_lt2 (n : Nat) (m : List Int) : sOf n m < R256 := Nat.lt_trans (sOf_lt n m) LL_lt
def Signed (p : Nat) (m : List Int) (R S : Nat) : Prop := S < LL ∧ ∃ P Q : Pt E5, enc P = p ∧ enc Q = R ∧ enc (Q.add (Pt.times (bindOf R p m) P)) = enc (Pt.times S BP)
noncomputable def signedB (p : Nat) (m : List Int) (R S : Nat) : Bool := @decide (Signed p m R S) (Classical.propDecidable _)
theorem signedB_true {p : Nat} {m : List Int} {R S : Nat} : signedB p m R S = true ↔ Signed p m R S := by unfold signedB; exact @decide_eq_true_iff _ (Classical.propDecidable _)
theorem signedB_false {p : Nat} {m : List Int} {R S : Nat} (h : ¬ Signed p m R S) : signedB p m R S = false := by unfold signedB; exact @decide_eq_false _ (Classical.propDecidable _) h
theorem signedB_pts {P Q : Pt E5} {p : Nat} {m : List Int} {R S : Nat} (hS : S < LL) (hP : enc P = p) (hQ : enc Q = R) : signedB p m R S = decide (enc (Q.add (Pt.times (bindOf R p m) P)) = enc (Pt.times S BP)) := by
  by_cases h : enc (Q.add (Pt.times (bindOf R p m) P)) = enc (Pt.times S BP)
  · rw [decide_eq_true h]; exact signedB_true.2 ⟨hS, P, Q, hP, hQ, h⟩
  · rw [decide_eq_false h]
    refine signedB_false fun ⟨_, P', Q', hP', hQ', h'⟩ => h ?_
    rw [enc_inj (hP.trans hP'.symm), enc_inj (hQ.trans hQ'.symm)]; exact h'
theorem signedB_low {p : Nat} {m : List Int} {R S : Nat} (h : decide (S < LL) = false) : signedB p m R S = false := signedB_false fun hs => by
  rw [decide_eq_true hs.1] at h; cases h
theorem signedB_nop {p : Nat} {m : List Int} {R S : Nat} (h : ∀ P : Pt E5, enc P ≠ p) : signedB p m R S = false := signedB_false fun ⟨_, P, _, hP, _⟩ => h P hP
theorem signedB_nor {p : Nat} {m : List Int} {R S : Nat} (h : ∀ Q : Pt E5, enc Q ≠ R) : signedB p m R S = false := signedB_false fun ⟨_, _, Q, _, hQ, _⟩ => h Q hQ
theorem sign_eqn (n : Nat) (m : List Int) : (Pt.times (onceOf n m) BP).add (Pt.times (bindOf (rOf n m) (pubOf n) m) (Pt.times (numOf n) BP)) = Pt.times (sOf n m) BP := by
  unfold sOf
  generalize bindOf (rOf n m) (pubOf n) m = k
  generalize numOf n = c
  generalize onceOf n m = r
  rw [Pt.times_mod base_L, Pt.times_add, Nat.mul_comm, Pt.times_mul, Pt.add_comm]
theorem sign_signed (n : Nat) (m : List Int) : signedB (pubOf n) m (rOf n m) (sOf n m) = true :=
  signedB_true.2 ⟨sOf_lt n m, Pt.times (numOf n) BP, Pt.times (onceOf n m) BP, rfl, rfl, by rw [sign_eqn]⟩
section
variable {T : World → Prop} (F : Low T)
include F
theorem public_is (n : Nat) (w : World) (hT : T w) : Calls Tryz.prog 6 #[.agg (B32 (bdig n))] w fun x w' => x = .returned (.agg (B32 (bdig (pubOf n)))) ∧ Below w.heap.size w w' :=
  public_at F (lo := dn (by32 n) % R256) (hi := preOf n) (c := numOf n) (two_parts _).symm (lo_lt _) rfl rfl w hT
theorem sign_is (n : Nat) {ta : Option Addr} {tc : Nat} {m : List Int} (hl : m.length ≤ 1000) (w : World) (hT : T w) (hm : Txt w ta tc m) : Calls Tryz.prog 7 #[.agg (B32 (bdig n)), .slice ta m.length tc] w fun x w' => x = .returned (.agg (B64 (bdig (sigOf n m)))) ∧ Below w.heap.size w w' :=
  sign_at F (lo := dn (by32 n) % R256) (hi := preOf n) (c := numOf n) (y := pubOf n) (r := onceOf n m) (R := rOf n m) (k := bindOf (rOf n m) (pubOf n) m) (S := sOf n m) (two_parts _).symm (lo_lt _) rfl rfl rfl rfl rfl rfl hl w hT hm
theorem verify_is {p R S : Nat} {ta : Option Addr} {tc : Nat} {m : List Int} (lp : p < R256) (lR : R < R256) (lS : S < R256) (hl : m.length ≤ 1000) (w : World) (hT : T w) (hm : Txt w ta tc m) : Calls Tryz.prog 10 #[.agg (B32 (bdig p)), .slice ta m.length tc, .agg (B64 (bdig (two R S)))] w fun x w' => x = .returned (.bool (signedB p m R S)) ∧ Below w.heap.size w w' := by
  have lk : bindOf R p m < R256 := lt_of_modL
  have z0 : B32 (fun _ => 0) = B32 (bdig 0) := B32_ext fun i _ => (bdig_zero i).symm
  have lt := enc_R7 (Pt.times S BP)
  by_cases hp : ∃ P : Pt E5, enc P = p
  · obtain ⟨P, rfl⟩ := hp
    by_cases hR : ∃ Q : Pt E5, enc Q = R
    · obtain ⟨Q, rfl⟩ := hR
      refine verify_gen F lR lS rfl rfl (fun w hT => F.mul _ lk P w hT) (fun _ w hT => F.add Q _ w hT) rfl (fun w => B32_eq _ _ (enc_R7 _) lt w) (fun h => signedB_low h) (.inr ⟨rfl, .inr ⟨rfl, fun h => ?_⟩⟩) hl w hT hm
      exact (signedB_pts (of_decide_eq_true h) rfl rfl).symm
    · refine verify_gen F lR lS rfl rfl (fun w hT => F.mul _ lk P w hT) (fun _ w hT => F.add_not R _ lR (enc_R7 _) (.inl fun Q e => hR ⟨Q, e⟩) w hT) rfl (fun w => by rw [z0]; exact B32_eq _ _ (by decide) lt w) (fun h => signedB_low h) (.inr ⟨rfl, .inl ⟨rfl, signedB_nor fun Q e => hR ⟨Q, e⟩⟩⟩) hl w hT hm
  · have hn : ∀ P : Pt E5, enc P ≠ p := fun P e => hp ⟨P, e⟩
    exact verify_gen F (f := fun _ => 0) (g := bdig 0) (e1 := 1) (e2 := 0) lR lS rfl rfl (fun w hT => F.mul_not _ p lk lp hn w hT) (fun h => by cases h) rfl (fun w => B32_eq _ _ (by decide) lt w) (fun h => signedB_low h) (.inl ⟨rfl, signedB_nop hn⟩) hl w hT hm
end
end Go.Proofs.YtfkcphbbabaefaaGreatDoor
namespace Go.Proofs.YtfkcphbbabaefaaGreatDoor
open Go Go.RowKit
theorem ppublic_is (n : Nat) (w : World) : Calls Tryz.prog 8 #[.agg (B32 (bdig n))] w fun x w' => x = .returned (.agg (B32 (bdig (pubOf n)))) ∧ Below w.heap.size w w' :=
  ppublic_at (lo := dn (by32 n) % R256) (hi := preOf n) (c := numOf n) (two_parts _).symm (lo_lt _) rfl rfl w
theorem psign_is (n : Nat) {ta : Option Addr} {tc : Nat} {m : List Int} (hl : m.length ≤ 1000) (w : World) (hm : Txt w ta tc m) : Calls Tryz.prog 9 #[.agg (B32 (bdig n)), .slice ta m.length tc] w fun x w' => x = .returned (.agg (B64 (bdig (sigOf n m)))) ∧ Below w.heap.size w w' :=
  psign_at (lo := dn (by32 n) % R256) (hi := preOf n) (c := numOf n) (y := pubOf n) (r := onceOf n m) (R := rOf n m) (k := bindOf (rOf n m) (pubOf n) m) (S := sOf n m) (two_parts _).symm (lo_lt _) rfl rfl rfl rfl rfl rfl hl w hm
end Go.Proofs.YtfkcphbbabaefaaGreatDoor
namespace Go.Proofs.YtfkcphbbabaefaaGreatDoor
open Go Go.RowKit
def wkN : Nat := 43647624700350065415986689228612485845309737963740022737531181108678917972381
def wkC : Nat := 36144925721603087658594284515452164870581325872720374094707712194495455132720
def wkX : Nat := 38815646466658113194383306759739515082307681141926459231621296960732224964046
def wkY : Nat := 11903303657706407974989296177215005343713679411332034699907763981919547054807
theorem wk_text : by32 wkN = [157, 97, 177, 157, 239, 253, 90, 96, 186, 132, 74, 244, 146, 236, 44, 196, 68, 73, 197, 105, 123, 50, 105, 25, 112, 59, 172, 3, 28, 174, 127, 96] := by decide +kernel
theorem wk_digest : H.digest [157, 97, 177, 157, 239, 253, 90, 96, 186, 132, 74, 244, 146, 236, 44, 196, 68, 73, 197, 105, 123, 50, 105, 25, 112, 59, 172, 3, 28, 174, 127, 96] = [53, 124, 131, 134, 79, 40, 51, 203, 66, 122, 46, 241, 192, 10, 1, 60, 253, 255, 39, 104, 217, 128, 192, 163, 165, 32, 240, 6, 144, 77, 233, 15, 155, 79, 10, 254, 40, 11, 116, 106, 119, 134, 132, 231, 84, 66, 80, 32, 87, 183, 71, 58, 3, 240, 143, 150, 245, 163, 142, 146, 135, 224, 31, 143] := by decide +kernel
theorem wk_num : numOf wkN = wkC := by
  unfold numOf dn
  rw [wk_text, wk_digest]
  decide +kernel
def wit (r : N4) (x y : Nat) : Bool := r.X % pp == x * r.Z % pp && r.Y % pp == y * r.Z % pp
theorem enc_wit {P : Pt E5} {r : N4} (h : Rep4 P r) {x y : Nat} (hw : wit r x y = true) (lx : x < pp) (ly : y < pp) : enc P = y + HH * (x % 2) := by
  unfold wit at hw
  rw [Bool.and_eq_true, beq_iff_eq, beq_iff_eq] at hw
  obtain ⟨hx, hy, -, hz⟩ := h
  have hi := fq_inv hz
  have ax : fq r.X = fq x * fq r.Z := by rw [← fq_mul]; exact fq_eq.2 hw.1
  have ay : fq r.Y = fq y * fq r.Z := by rw [← fq_mul]; exact fq_eq.2 hw.2
  have ex : fq x = P.x := by
    generalize fq r.Z = z at *
    grind
  have ey : fq y = P.y := by
    generalize fq r.Z = z at *
    grind
  unfold enc
  rw [← ex, ← ey, fq_val, fq_val, Nat.mod_eq_of_lt lx, Nat.mod_eq_of_lt ly]
theorem wk_wit : wit (mul4 base4 256 wkC) wkX wkY = true := by decide +kernel
theorem wk_pub : pubOf wkN = wkY + HH * (wkX % 2) := by
  unfold pubOf
  rw [wk_num]
  exact enc_wit (base_rep.mul 256 wkC (by decide +kernel)) wk_wit (by decide +kernel) (by decide +kernel)
theorem wk_arr : B32 (bdig wkN) = #[.int .u8 157, .int .u8 97, .int .u8 177, .int .u8 157, .int .u8 239, .int .u8 253, .int .u8 90, .int .u8 96, .int .u8 186, .int .u8 132, .int .u8 74, .int .u8 244, .int .u8 146, .int .u8 236, .int .u8 44, .int .u8 196, .int .u8 68, .int .u8 73, .int .u8 197, .int .u8 105, .int .u8 123, .int .u8 50, .int .u8 105, .int .u8 25, .int .u8 112, .int .u8 59, .int .u8 172, .int .u8 3, .int .u8 28, .int .u8 174, .int .u8 127, .int .u8 96] := by rfl
theorem wk_b0 : bdig (pubOf wkN) 0 = 215 := by rw [wk_pub]; decide +kernel
theorem wk_b1 : bdig (pubOf wkN) 1 = 90 := by rw [wk_pub]; decide +kernel
theorem wk_b2 : bdig (pubOf wkN) 2 = 152 := by rw [wk_pub]; decide +kernel
theorem wk_b31 : bdig (pubOf wkN) 31 = 26 := by rw [wk_pub]; decide +kernel
set_option maxRecDepth 100000 in
set_option maxHeartbeats 2000000 in
theorem wakes_is {T : World → Prop} (F : Low T) (w : World) (hT : T w) : Calls Tryz.prog 12 #[] w fun x w' => x = .returned (.bool true) ∧ Below w.heap.size w w' := by
  have hz := (zero_of_info zeroB32).1
  obtain ⟨n, Hn⟩ : ∃ n, Hid (wkN = n) := ⟨_, rfl⟩
  obtain ⟨y, Hy⟩ : ∃ y, Hid (pubOf n = y) := ⟨_, rfl⟩
  have Ha : Hid (B32 (bdig n) = #[.int .u8 157, .int .u8 97, .int .u8 177, .int .u8 157, .int .u8 239, .int .u8 253, .int .u8 90, .int .u8 96, .int .u8 186, .int .u8 132, .int .u8 74, .int .u8 244, .int .u8 146, .int .u8 236, .int .u8 44, .int .u8 196, .int .u8 68, .int .u8 73, .int .u8 197, .int .u8 105, .int .u8 123, .int .u8 50, .int .u8 105, .int .u8 25, .int .u8 112, .int .u8 59, .int .u8 172, .int .u8 3, .int .u8 28, .int .u8 174, .int .u8 127, .int .u8 96]) := by show _ = _; rw [← Hn.out]; exact wk_arr
  have Hb0 : Hid (bdig y 0 = 215) := by show _ = _; rw [← Hy.out, ← Hn.out]; exact wk_b0
  have Hb1 : Hid (bdig y 1 = 90) := by show _ = _; rw [← Hy.out, ← Hn.out]; exact wk_b1
  have Hb2 : Hid (bdig y 2 = 152) := by show _ = _; rw [← Hy.out, ← Hn.out]; exact wk_b2
  have Hb31 : Hid (bdig y 31 = 26) := by show _ = _; rw [← Hy.out, ← Hn.out]; exact wk_b31
  have hp : Hid (∀ w, T w → Calls Tryz.prog 6 #[.agg (B32 (bdig n))] w fun x w' => x = .returned (.agg (B32 (bdig y))) ∧ Below w.heap.size w w') := fun w hT => by rw [← Hy.out]; exact public_is F n w hT
  go_enter Tryz.func12, Tryz.ntmps12
  go_upto_region 1 with fail
  have hK := Kp.nil w
  go_upto_region 2 with (first
    | refine H.wpList_build (by rfl) 22 _ rfl (.agg (B32 (bdig n))) (by rw [Ha.out]; kernel_rfl) ?_
    | refine wpList_store_new (by rfl) 22 (.tmp 1) (.tmp 3) (by rfl) _ (B32 (bdig n)) (by rfl) (by rfl) (B32_info _) (B32_sizes _ _) (B32_one _) (by rfl) ?_)
  have hK := hK.alloc (B32 (bdig n)) 22
  generalize w.alloc (.cells (B32 (bdig n)) 22) = V1 at *
  obtain ⟨bA, HbA⟩ : ∃ b, Hid (w.heap.size = b) := ⟨_, rfl⟩
  have le_bA : Hid (w.heap.size ≤ bA) := by show _ ≤ _; rw [HbA.out]; exact Nat.le_refl _
  rw [HbA.out] at hK ⊢
  go_wp2_with (refine wpList_load_own (by rfl) 22 (.tmp 1) (by rfl) bA (by rfl) (B32 (bdig n)) _ (hK.at bA (B32 (bdig n)) 22 (.head _)) Tryz.underlying22 (by rfl) (B32_info _) ?_)
  refine (hp.out _ (F.keep _ _ hT hK.2)).mono ?_
  rintro e V2 ⟨rfl, bw⟩
  have hK := hK.below bw
  clear bw
  go_upto_region 3 with (refine wpList_store_new (by rfl) 22 (.tmp 2) (.tmp 5) (by rfl) _ (B32 (bdig y)) (by rfl) (by rfl) (B32_info _) (B32_sizes _ _) (B32_one _) (by rfl) ?_)
  have hK := hK.alloc (B32 (bdig y)) 22
  generalize V2.alloc (.cells (B32 (bdig y)) 22) = V4 at *
  obtain ⟨b3, Hb3⟩ : ∃ b, Hid (V2.heap.size = b) := ⟨_, rfl⟩
  rw [Hb3.out] at hK ⊢
  have c0 : V4.cell? ⟨b3, 0, none⟩ = some (.int .u8 215) := by have := (hK.at b3 (B32 (bdig y)) 22 (.head _)).cell (B32_at (bdig y) 0 (by decide)); rw [Hb0.out] at this; exact this
  have c1 : V4.cell? ⟨b3, 1, none⟩ = some (.int .u8 90) := by have := (hK.at b3 (B32 (bdig y)) 22 (.head _)).cell (B32_at (bdig y) 1 (by decide)); rw [Hb1.out] at this; exact this
  have c2 : V4.cell? ⟨b3, 2, none⟩ = some (.int .u8 152) := by have := (hK.at b3 (B32 (bdig y)) 22 (.head _)).cell (B32_at (bdig y) 2 (by decide)); rw [Hb2.out] at this; exact this
  have c3 : V4.cell? ⟨b3, 31, none⟩ = some (.int .u8 26) := by have := (hK.at b3 (B32 (bdig y)) 22 (.head _)).cell (B32_at (bdig y) 31 (by decide)); rw [Hb31.out] at this; exact this
  go_wp2
  go_ret
  exact ⟨rfl, hK.2⟩
end Go.Proofs.YtfkcphbbabaefaaGreatDoor
namespace Go.Proofs.YtfkcphbbabaefaaGreatDoor
open Go Go.RowKit
theorem twin_is {w : World} {ta : Option Addr} {tc bA : Nat} {A : Array Value} {tA : TypeId} {m : List Int} (hm : Txt w ta tc m) (hl : m.length ≤ 1000) (hA : Own w bA A tA) :
    Calls Tryz.prog 5 #[.slice ta m.length tc] w fun e w' => ∃ ja jc bX X tX, e = .returned (.slice ja m.length jc) ∧ (∀ W, Own W bX X tX → H.OwnBytes W w.heap.size (.slice ja m.length jc) m) ∧ Own w' bX X tX ∧ (∀ b, b < w.heap.size → b ≠ bA → b ≠ bX) ∧ Below w.heap.size w w' := by
  refine (H.twin_any ta tc m w hm.1 hm.2 (by omega)).mono ?_
  rintro e w' ⟨ja, jc, rfl, hO, hV, hg⟩
  have hB : Below w.heap.size w w' := (Below.refl _ _).grown hg (Nat.le_refl _) (fun k e => by cases e)
  obtain ⟨h1, ⟨h2, h3⟩ | ⟨g, cap, cur, h2, h3, h4, h5⟩⟩ := hO
  · exact ⟨ja, jc, bA, A, tA, rfl, fun W _ => ⟨h1, .inl ⟨h2, h3⟩⟩, hA.below hB hA.lt, fun b _ hb => hb, hB⟩
  · exact ⟨ja, jc, g, cur, 5, rfl, fun W hW => ⟨h1, .inr ⟨g, cap, cur, h2, h3, hW, h5⟩⟩, h4, fun b hb _ e => by omega, hB⟩
theorem txt_of_own {w : World} {base : Nat} {ja : Option Addr} {jc : Nat} {m : List Int} (h : H.OwnBytes w base (.slice ja m.length jc) m) (hb : H.Bys m) : Txt w ja jc m := by
  obtain ⟨a, c, e, hv⟩ := h.form hb
  simp only [Value.slice.injEq] at e
  obtain ⟨rfl, -, rfl⟩ := e
  exact ⟨hv, h.none⟩
theorem bytes_is {w : World} {ta ta' : Option Addr} {tc tc' : Nat} {m : List Int} (h : Txt w ta tc m) (h' : Txt w ta' tc' m) : Calls Tryz.prog 11 #[.slice ta m.length tc, .slice ta' m.length tc'] w fun e w' => e = .returned (.bool true) ∧ Below w.heap.size w w' := H.bytes_any ta ta' m.length tc tc' m w h.1 h'.1
end Go.Proofs.YtfkcphbbabaefaaGreatDoor
