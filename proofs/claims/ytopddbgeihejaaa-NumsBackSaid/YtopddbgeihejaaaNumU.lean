/- Numbers as bytes: the plain answer's PutFix, GetFix. -/
import Derived.Test.YtopddbgeihejaaaNumT
namespace Go.Proofs.Ytopddbgeihejaaa
open Go.RowKit
set_option linter.unusedVariables false

theorem fix_more (x : Nat) (k : Nat) (h : k < 8) : (⟨((Nu.fixL x).take k).toArray⟩ : ByteArray) ++ ⟨#[(Nu.fixL x).getD k 0]⟩ = ⟨((Nu.fixL x).take (k + 1)).toArray⟩ := by
  rw [show (⟨#[(Nu.fixL x).getD k 0]⟩ : ByteArray) = ⟨[(Nu.fixL x).getD k 0].toArray⟩ from rfl, ba_join]
  have e : k = 0 ∨ k = 1 ∨ k = 2 ∨ k = 3 ∨ k = 4 ∨ k = 5 ∨ k = 6 ∨ k = 7 := by omega
  rcases e with rfl | rfl | rfl | rfl | rfl | rfl | rfl | rfl <;> rfl

theorem fix_byte (x : Nat) (j : Int) (h0 : 0 ≤ j) (h : j < 8) : (x : Int) / 2 ^ (8 * j).toNat % 256 = (((Nu.fixL x).getD j.toNat 0).toNat : Int) := by
  have e : j = 0 ∨ j = 1 ∨ j = 2 ∨ j = 3 ∨ j = 4 ∨ j = 5 ∨ j = 6 ∨ j = 7 := by omega
  rcases e with rfl | rfl | rfl | rfl | rfl | rfl | rfl | rfl <;> (simp [Nu.fixL]; try omega)

set_option maxHeartbeats 1000000 in
theorem rPutFix_any (x : Nat) (w : World) : Calls Try.prog 13 #[.int .u64 (x : Int)] w (RetBelow (.string (Nu.fix x)) w) := by
  obtain ⟨X, hX⟩ : ∃ X : Int, (x : Int) = X := ⟨_, rfl⟩
  rw [hX]
  go_enter Try.func13, Try.ntmps13
  go_wp2_with fail
  go_loopw [3, 4] (fun s i wr => ∃ (j : Int), s = .string ⟨((Nu.fixL x).take j.toNat).toArray⟩ ∧ i = .int .i64 j ∧ 0 ≤ j ∧ j ≤ 8 ∧ Hid (Below w.heap.size w wr)) (fun _ i _ => 8 - (intOf i).toNat)
  case atStart => exact ⟨0, rfl, rfl, by omega, by omega, Below.refl _ _⟩
  case round =>
    obtain ⟨j, rfl, rfl, hj0, hj8, hd⟩ := hrel
    obtain ⟨t, ht⟩ : ∃ t, (⟨((Nu.fixL x).take j.toNat).toArray⟩ : ByteArray) = t := ⟨_, rfl⟩
    have hz : t.size ≤ 8 := by rw [← ht, ba_size, List.length_take]; omega
    by_cases hlt : j < 8
    · have hm := Lib.hid (fix_more x j.toNat (by omega))
      rw [ht] at hm ⊢
      have hb := fix_byte x j hj0 hlt
      obtain ⟨b, hbb⟩ : ∃ b, (Nu.fixL x).getD j.toNat 0 = b := ⟨_, rfl⟩
      rw [hbb] at hb hm
      rw [hX] at hb
      have hc := one_conv b _ hb
      clear hb hbb ht
      go_wp2_with fail
      go_roundw
      case rel => exact ⟨j + 1, by rw [show (j + 1).toNat = j.toNat + 1 by omega, ← hm.out], rfl, by omega, by omega, hd.out.alloc hd.out.size _⟩
      case measure => simp [intOf]; omega
    · have h8 : j.toNat = 8 := by omega
      have hf : t = Nu.fix x := by rw [← ht, h8]; rfl
      rw [ht]
      subst hf
      clear ht
      go_wp2_with fail
      go_ret
      exact ⟨rfl, hd.out⟩

/-- The last bytes of eight, put together. -/
def Nu.back (s : ByteArray) : Nat → Nat
  | 0 => 0
  | r + 1 => Nu.back s r * 256 + Cr.bt s (7 - r)
theorem back_lt (s : ByteArray) : ∀ r, r ≤ 8 → Nu.back s r < 256 ^ r
  | 0, _ => by simp [Nu.back]
  | r + 1, h => by
    have ih := back_lt s r (by omega)
    have := Cr.bt_lt s (7 - r)
    rw [Nat.pow_succ]
    show Nu.back s r * 256 + _ < _
    omega
theorem back_all (s : ByteArray) : Nu.back s 8 = Nu.unfix s := by
  unfold Nu.unfix
  simp only [Nu.back, Nat.sub_zero, Nat.reduceSub, Nat.zero_mul, Nat.zero_add]
  omega

def Nu.ansF (r : Nat × Nat × Int) : Value := .tuple #[.int .u64 (r.1 : Int), .int .i64 (r.2.1 : Int), .int .i64 r.2.2]

set_option maxHeartbeats 1000000 in
theorem rGetFix_any (s : ByteArray) (w : World) : Calls Try.prog 20 #[.string s] w fun e w' => e = .returned (Nu.ansF (Nu.getF s)) ∧ w = w' := by
  unfold Nu.getF
  obtain ⟨z, hz⟩ : ∃ z : Int, (s.size : Int) = z := ⟨_, rfl⟩
  by_cases h8 : s.size < 8
  · rw [if_pos h8]
    have hz8 : z < 8 := by omega
    clear h8
    go_enter Try.func20, Try.ntmps20
    go_wp2_with fail
    go_ret3
    exact ⟨rfl, rfl⟩
  · rw [if_neg h8]
    have hz8 : 8 ≤ z := by omega
    clear h8
    go_enter Try.func20, Try.ntmps20
    go_wp2_with fail
    go_loopw [5, 6] (fun x i wr => ∃ (v j : Int), x = .int .u64 v ∧ i = .int .i64 j ∧ -1 ≤ j ∧ j ≤ 7 ∧ Hid (v = (Nu.back s (7 - j).toNat : Nat)) ∧ wr = w) (fun _ i _ => (intOf i + 1).toNat)
    case atStart => exact ⟨0, 7, rfl, rfl, by omega, by omega, rfl, rfl⟩
    case round =>
      obtain ⟨v, j, rfl, rfl, hj0, hj7, hd, rfl⟩ := hrel
      by_cases hlt : 0 ≤ j
      · have hi := fun w => index_at s j.toNat (by omega) w
        have hb := Cr.bt_lt s j.toNat
        have hc0 : (0 : Int) ≤ (Cr.bt s j.toNat : Int) ∧ (Cr.bt s j.toNat : Int) < 256 := by omega
        rw [show ((j.toNat : Nat) : Int) = j by omega] at hi
        have hlim := back_lt s (7 - j).toNat (by omega)
        have hlim2 : 256 ^ (7 - j).toNat ≤ 256 ^ 7 := Nat.pow_le_pow_right (by decide) (by omega)
        have hv : 0 ≤ v ∧ v < 72057594037927936 := by have := hd.out; have e : (256 : Nat) ^ 7 = 72057594037927936 := by decide
                                                      omega
        have hn : Hid (((Nu.back s (7 - (j - 1)).toNat : Nat) : Int) = v * 256 + (Cr.bt s j.toNat : Int)) := Lib.hid (by
          rw [show (7 - (j - 1)).toNat = (7 - j).toNat + 1 by omega]
          show ((Nu.back s (7 - j).toNat * 256 + Cr.bt s (7 - (7 - j).toNat) : Nat) : Int) = _
          rw [show 7 - (7 - j).toNat = j.toNat by omega, hd.out]
          omega)
        obtain ⟨c, hc⟩ : ∃ c : Int, (Cr.bt s j.toNat : Int) = c := ⟨_, rfl⟩
        rw [hc] at hi hc0 hn
        clear hb hc hlim hlim2 hd
        have h0 := hc0.1; have h1 := hc0.2; have v0 := hv.1; have v1 := hv.2
        clear hc0 hv
        go_wp2_with fail
        go_roundw
        case rel => exact ⟨v * 256 + c, j - 1, rfl, rfl, by omega, by omega, hn.out.symm, trivial⟩
        case measure => simp [intOf]; omega
      · have hv : Hid (v = ((Nu.unfix s : Nat) : Int)) := Lib.hid (by rw [hd.out, ← back_all, show (7 - j).toNat = 8 by omega])
        clear hd
        go_wp2_with fail
        go_ret3
        exact ⟨by rw [show Nu.ansF (Nu.unfix s, 8, 0) = .tuple #[.int .u64 ((Nu.unfix s : Nat) : Int), .int .i64 8, .int .i64 0] from rfl, ← hv.out]; rfl, rfl⟩

end Go.Proofs.Ytopddbgeihejaaa
