/- CRC-32C: the contracts of one byte's steps and of a text's sum. -/
import Derived.Test.YtcjpednhefeboaaBelow
import Derived.Test.YtcjpednhefeboaaCrc
import Derived.Test.YtcjpednhefeboaaStr
import Derived.ScopeJumps
import Derived.WalkMore
import Derived.Laws.IdiomStrings
namespace Go.Proofs.Ytcjpednhefeboaa
open Go.RowKit
set_option linter.unusedVariables false

theorem cr_step (x : Nat) (h : x < 4294967296) : bits .xor .u32 ((x : Int) / 2) (2197175160 * bits .and .u32 (x : Int) 1 % 4294967296) = ((Cr.step x : Nat) : Int) := by
  have h1 : bits .and .u32 (x : Int) 1 = ((x % 2 : Nat) : Int) := by
    have := u32_and_nat x 1 h (by omega)
    rw [Nat.and_one_is_mod] at this
    exact_mod_cast this
  have h2 : ((x : Int) / 2) = ((x / 2 : Nat) : Int) := by omega
  have h3 : 2197175160 * ((x % 2 : Nat) : Int) % 4294967296 = ((2197175160 * (x % 2) : Nat) : Int) := by omega
  rw [h1, h3, h2, u32_xor_nat _ _ (by omega) (by omega)]
  rfl

set_option maxHeartbeats 400000 in
theorem through_any (x : Nat) (hx : x < 4294967296) (w : World) :
    Calls Try.prog 55 #[.int .u32 (x : Int)] w fun e w' => e = .returned (.int .u32 ((Cr.thr x : Nat) : Int)) ∧ w = w' := by
  go_enter Try.func55, Try.ntmps55
  go_wp2
  go_loop [0, 3] (fun r i => ∃ k : Nat, k ≤ 8 ∧ i = .int .i64 k ∧ r = .int .u32 ((Cr.it k x : Nat) : Int)) (fun _ i => match i with | .int _ m => 8 - m.toNat | _ => 0)
  case atStart => exact ⟨0, Nat.zero_le _, rfl, rfl⟩
  case round =>
    obtain ⟨k, hk, rfl, rfl⟩ := hrel
    have hb := Cr.it_lt k x hx
    have hs := cr_step _ hb
    have HS := Lib.hid hs; clear hs
    by_cases hlt : k < 8
    · go_wp2
      exact ⟨⟨k + 1, by omega, by go_num, by rw [HS.out]; rfl⟩, by simp; omega⟩
    · obtain rfl : k = 8 := by omega
      go_wp2
      go_ret
      exact ⟨rfl, rfl⟩

theorem cr_in (c : Nat) (b : UInt8) (h : c < 4294967296) : bits .xor .u32 (c : Int) (((b.toNat : Nat) : Int) % 4294967296) = ((c ^^^ b.toNat : Nat) : Int) := by
  have hb := b.toNat_lt
  have e : ((b.toNat : Nat) : Int) % 4294967296 = ((b.toNat : Nat) : Int) := by omega
  rw [e]
  exact u32_xor_nat _ _ h (by omega)
theorem cr_not (c : Nat) (h : c < 4294967296) : bits .xor .u32 (c : Int) 4294967295 = ((c ^^^ 4294967295 : Nat) : Int) := by
  have := u32_xor_nat c 4294967295 h (by omega)
  exact this
theorem cr_max (c : Nat) (h : c < 4294967296) : bits .xor .u32 IntKind.u32.max (c : Int) = ((c ^^^ 4294967295 : Nat) : Int) := by
  have := u32_xor_nat 4294967295 c (by omega) h
  rw [Nat.xor_comm] at this
  exact this
theorem take_snoc (s : ByteArray) (k : Nat) (h : k < s.size) : s.data.toList.take (k + 1) = s.data.toList.take k ++ [s[k]] := by
  rw [List.take_succ_eq_append_getElem (by simpa using h)]; rfl
theorem cr_next (s : ByteArray) (c k : Nat) (h : k < s.size) : Cr.fold c (s.data.toList.take (k + 1)) = Cr.thr (Cr.fold c (s.data.toList.take k) ^^^ s[k].toNat) := by
  rw [take_snoc s k h, Cr.fold_snoc]; rfl
theorem cr_all (s : ByteArray) (k : Nat) (h : s.size ≤ k) : s.data.toList.take k = s.data.toList := List.take_of_length_le (by simpa using h)

/-- A text's sum. -/
def Cr.sum (s : ByteArray) : Nat := Cr.sumL s.data.toList

theorem cr_empty (s : ByteArray) (h : ¬ 0 < s.size) : bits .xor .u32 IntKind.u32.max 4294967295 = ((Cr.sum s : Nat) : Int) := by
  have e : s.data.toList = [] := by
    apply List.eq_nil_of_length_eq_zero
    have : s.data.toList.length = s.size := by simp
    omega
  have := cr_max 4294967295 (by omega)
  unfold Cr.sum
  rw [e]
  exact this

set_option maxHeartbeats 400000 in
theorem Sum_any (s : ByteArray) (hs : s.size ≤ 9000000000000000000) (w : World) :
    Calls Try.prog 47 #[.string s] w fun e w' => e = .returned (.int .u32 ((Cr.sum s : Nat) : Int)) ∧ w = w' := by
  go_enter Try.func47, Try.ntmps47
  go_wp2
  refine wp_scope_jumps 0 (fun a' w' => w' = w ∧ ∃ (k : Nat) (u5 u6 u7 u8 u9 u10 u11 u12 u13 u14 u15 u16 u17 u18 u19 : Value), a' = { tmps := #[.string s, undef, .int .u32 0, .int .u32 ((Cr.fold 4294967295 (s.data.toList.take k) : Nat) : Int), .int .i64 k, u5, u6, u7, u8, u9, u10, u11, u12, u13, u14, u15, u16, u17, u18, u19], defers := [] } ∧ k ≤ s.size) (fun a' _ => s.size - (intOf (a'.tmps.getD 4 undef)).toNat) rfl ?_ ?_
  · by_cases hlt : 0 < s.size
    · have hx0 : bits .xor .u32 4294967295 (((s[0].toNat : Nat) : Int) % 4294967296) = ((4294967295 ^^^ s[0].toNat : Nat) : Int) := cr_in 4294967295 s[0] (by omega)
      have hx := Lib.hid hx0; clear hx0
      have hc0 : Cr.fold 4294967295 (s.data.toList.take 1) = Cr.thr (4294967295 ^^^ s[0].toNat) := by rw [cr_next s 4294967295 0 hlt, List.take_zero]; rfl
      have hc := Lib.hid hc0; clear hc0
      go_wp2_with fail
      go_step3
      go_wp2_with fail
      rw [hx.out]
      refine (through_any _ (Cr.in_lt _ _ (by omega)) _).mono ?_
      rintro e w2 ⟨rfl, rfl⟩
      go_wp2_with fail
      go_step3
      rw [← hc.out]
      exact ⟨rfl, rfl, 1, _, _, _, _, _, _, _, _, _, _, _, _, _, _, _, rfl, by omega⟩
    · go_wp2_with fail
      go_step3
      go_wp2_with fail
      simp only [Exit.jump]
      go_ret
      exact ⟨ret_u32 (cr_empty s hlt), rfl⟩
  · rintro a' w' ⟨rfl, k, u5, u6, u7, u8, u9, u10, u11, u12, u13, u14, u15, u16, u17, u18, u19, rfl, hk⟩
    have hb := Cr.fold_lt (s.data.toList.take k) 4294967295 (by omega)
    by_cases hlt : k < s.size
    · have hx := Lib.hid (cr_in _ s[k] hb)
      have hc := Lib.hid (cr_next s 4294967295 k hlt)
      go_wp2_with fail
      rw [hx.out]
      refine (through_any _ (Cr.in_lt _ _ hb) _).mono ?_
      rintro e w2 ⟨rfl, rfl⟩
      go_wp2_with fail
      go_step3
      rw [← hc.out]
      refine ⟨rfl, ⟨rfl, k + 1, _, _, _, _, _, _, _, _, _, _, _, _, _, _, _, rfl, by omega⟩, ?_⟩
      simp [intOf]; omega
    · go_wp2_with fail
      simp only [Exit.jump]
      go_ret
      exact ⟨ret_u32 ((cr_max _ hb).trans (by unfold Cr.sum Cr.sumL; rw [cr_all s k (by omega)])), rfl⟩
def Cr.back (s : ByteArray) : Nat := Cr.backL s.data.toList
def Cr.four (n : Nat) : ByteArray := ⟨(Cr.fourL n).toArray⟩

theorem four_conv (n : Nat) (h : n < 4294967296) (w : World) :
    (convert 59 9 (.slice (some ⟨w.heap.size, 0, none⟩) 4 4)).run Try.prog (w.alloc (.cells #[.int .u8 ((n : Int) % 256), .int .u8 ((n : Int) / 256 % 256), .int .u8 ((n : Int) / 65536 % 256), .int .u8 ((n : Int) / 16777216)] 5)) =
      .ok (.string (Cr.four n)) (w.alloc (.cells #[.int .u8 ((n : Int) % 256), .int .u8 ((n : Int) / 256 % 256), .int .u8 ((n : Int) / 65536 % 256), .int .u8 ((n : Int) / 16777216)] 5)) := by
  refine run_convert_bytes_back (w := w.alloc (.cells #[.int .u8 ((n : Int) % 256), .int .u8 ((n : Int) / 256 % 256), .int .u8 ((n : Int) / 65536 % 256), .int .u8 ((n : Int) / 16777216)] 5)) 59 9 5 ⟨w.heap.size, 0, none⟩ 4 (Cr.fourL n) Try.underlying59 Try.underlying5 Try.underlying9 (fun j hj => ?_)
  rw [Cr.fourL_length] at hj
  have hc := fun j => World.cell?_alloc_mark w #[.int .u8 ((n : Int) % 256), .int .u8 ((n : Int) / 256 % 256), .int .u8 ((n : Int) / 65536 % 256), .int .u8 ((n : Int) / 16777216)] 5 (0, 0) j
  have e : (⟨w.heap.size, 0, none⟩ : Addr).add j = ⟨w.heap.size, j, none⟩ := by simp [Addr.add]; omega
  rw [e, hc j]
  have : j = 0 ∨ j = 1 ∨ j = 2 ∨ j = 3 := by omega
  rcases this with rfl | rfl | rfl | rfl <;> simp [Cr.fourL] <;> omega

theorem bytesOf_any (n : Nat) (h : n < 4294967296) (w : World) :
    Calls Try.prog 50 #[.int .u32 (n : Int)] w (RetBelow (.string (Cr.four n)) w) := by
  have hc := four_conv n h
  go_enter Try.func50, Try.ntmps50
  go_wp2_with fail
  go_ret
  exact ⟨rfl, (Below.refl _ _).alloc (Nat.le_refl _) _⟩

theorem or_join (i a b : Nat) (h : a < 2 ^ i) : a ||| (b * 2 ^ i) = a + b * 2 ^ i := by
  rw [Nat.or_comm, Nat.mul_comm b, ← Nat.two_pow_add_eq_or_of_lt h, Nat.add_comm]
theorem cr_join (a b c d : Nat) (ha : a < 256) (hb : b < 256) (hc : c < 256) (hd : d < 256) :
    bits .or .u32 (bits .or .u32 (bits .or .u32 ((a : Int) % 4294967296) ((b : Int) % 4294967296 * 256 % 4294967296)) ((c : Int) % 4294967296 * 65536 % 4294967296)) ((d : Int) % 4294967296 * 16777216 % 4294967296) = ((a + 256 * b + 65536 * c + 16777216 * d : Nat) : Int) := by
  have ea : (a : Int) % 4294967296 = ((a : Nat) : Int) := by omega
  have eb : (b : Int) % 4294967296 * 256 % 4294967296 = ((b * 2 ^ 8 : Nat) : Int) := by omega
  have ec : (c : Int) % 4294967296 * 65536 % 4294967296 = ((c * 2 ^ 16 : Nat) : Int) := by omega
  have ed : (d : Int) % 4294967296 * 16777216 % 4294967296 = ((d * 2 ^ 24 : Nat) : Int) := by omega
  rw [ea, eb, ec, ed, u32_or_nat _ _ (by omega) (by omega), or_join 8 a b (by omega), u32_or_nat _ _ (by omega) (by omega), or_join 16 _ c (by omega), u32_or_nat _ _ (by omega) (by omega), or_join 24 _ d (by omega)]
  have : a + b * 2 ^ 8 + c * 2 ^ 16 + d * 2 ^ 24 = a + 256 * b + 65536 * c + 16777216 * d := by omega
  rw [this]

theorem retDrew_u32 {a b : Int} {w : World} {e : Ending} {w' : World} (h : a = b) (he : e = .returned (.int .u32 a)) (hw : ∃ n, w' = w.drewN n) : RetDrew (.int .u32 b) w e w' := by
  subst h; exact ⟨he, hw⟩
theorem cr_back (s : ByteArray) : bits .or .u32 (bits .or .u32 (bits .or .u32 ((Cr.bt s 0 : Int) % 4294967296) ((Cr.bt s 1 : Int) % 4294967296 * 256 % 4294967296)) ((Cr.bt s 2 : Int) % 4294967296 * 65536 % 4294967296)) ((Cr.bt s 3 : Int) % 4294967296 * 16777216 % 4294967296) = ((Cr.back s : Nat) : Int) :=
  cr_join _ _ _ _ (Cr.bt_lt s 0) (Cr.bt_lt s 1) (Cr.bt_lt s 2) (Cr.bt_lt s 3)

theorem numberOf_any (s : ByteArray) (h : 4 ≤ s.size) (w : World) :
    Calls Try.prog 46 #[.string s] w (RetDrew (.int .u32 ((Cr.back s : Nat) : Int)) w) := by
  have i0 : ∀ w, (Instr.index 9 (.string s) (.int .i64 0)).run Try.prog w = .ok (.int .u8 ((Cr.bt s 0 : Nat) : Int)) w := index_at s 0 (by omega)
  have i1 : ∀ w, (Instr.index 9 (.string s) (.int .i64 1)).run Try.prog w = .ok (.int .u8 ((Cr.bt s 1 : Nat) : Int)) w := index_at s 1 (by omega)
  have i2 : ∀ w, (Instr.index 9 (.string s) (.int .i64 2)).run Try.prog w = .ok (.int .u8 ((Cr.bt s 2 : Nat) : Int)) w := index_at s 2 (by omega)
  have i3 : ∀ w, (Instr.index 9 (.string s) (.int .i64 3)).run Try.prog w = .ok (.int .u8 ((Cr.bt s 3 : Nat) : Int)) w := index_at s 3 (by omega)
  go_enter Try.func46, Try.ntmps46
  go_wp2_with fail
  go_quiet (fail)
  go_wp2_with fail
  go_ret
  exact retDrew_u32 (cr_back s) rfl ⟨_, rfl⟩

theorem rFour_any (n : Nat) (h : n < 4294967296) (w : World) :
    Calls Try.prog 44 #[.int .u32 (n : Int)] w (RetBelow (.string (Cr.four n)) w) := by
  have hc := four_conv n h
  go_enter Try.func44, Try.ntmps44
  go_wp2_with fail
  go_ret
  exact ⟨rfl, (Below.refl _ _).alloc (Nat.le_refl _) _⟩

theorem rBack_any (s : ByteArray) (h : 4 ≤ s.size) (w : World) :
    Calls Try.prog 49 #[.string s] w (RetDrew (.int .u32 ((Cr.back s : Nat) : Int)) w) := by
  have i0 : ∀ w, (Instr.index 9 (.string s) (.int .i64 0)).run Try.prog w = .ok (.int .u8 ((Cr.bt s 0 : Nat) : Int)) w := index_at s 0 (by omega)
  have i1 : ∀ w, (Instr.index 9 (.string s) (.int .i64 1)).run Try.prog w = .ok (.int .u8 ((Cr.bt s 1 : Nat) : Int)) w := index_at s 1 (by omega)
  have i2 : ∀ w, (Instr.index 9 (.string s) (.int .i64 2)).run Try.prog w = .ok (.int .u8 ((Cr.bt s 2 : Nat) : Int)) w := index_at s 2 (by omega)
  have i3 : ∀ w, (Instr.index 9 (.string s) (.int .i64 3)).run Try.prog w = .ok (.int .u8 ((Cr.bt s 3 : Nat) : Int)) w := index_at s 3 (by omega)
  go_enter Try.func49, Try.ntmps49
  go_wp2_with fail
  go_quiet (fail)
  go_wp2_with fail
  go_ret
  exact retDrew_u32 (cr_back s) rfl ⟨_, rfl⟩

end Go.Proofs.Ytcjpednhefeboaa
