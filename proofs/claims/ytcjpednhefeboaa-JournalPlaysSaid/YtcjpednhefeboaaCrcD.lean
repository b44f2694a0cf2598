/- CRC-32C: what is read. -/
import Derived.Test.YtcjpednhefeboaaCrcC
namespace Go.Proofs.Ytcjpednhefeboaa
open Go.RowKit
set_option linter.unusedVariables false

/-- The text that a frame of the length told would have. -/
def Cr.text (s : ByteArray) : ByteArray := s.extract 8 (8 + Cr.back s)
/-- The sum told. -/
def Cr.told (s : ByteArray) : Nat := Cr.back (s.extract 4 s.size)
theorem ex_size (s : ByteArray) (a b : Nat) (h : b ≤ s.size) : (s.extract a b).size = b - a := by
  rw [ByteArray.size_extract]; omega
theorem text_two (s : ByteArray) (n : Nat) (h : 8 + n ≤ s.size) : (s.extract 8 s.size).extract 0 n = s.extract 8 (8 + n) := by
  apply ByteArray.ext
  simp only [ByteArray.data_extract, Array.extract_extract]
  congr 1
  have : s.data.size = s.size := rfl
  omega
theorem Cr.back_lt (s : ByteArray) : Cr.back s < 4294967296 := Cr.backL_lt _

theorem slice_from (s : ByteArray) (k : Nat) (h : k ≤ s.size) (w : World) : (Instr.slice 9 (.string s) (some (.int .i64 (k : Int))) none none).run Try.prog w = .ok (.string (s.extract k s.size)) w := by
  rw [run_slice_string_from_if w 9 s .i64 k Try.underlying9, if_pos ⟨by omega, by omega⟩]
  rfl

theorem slice_text (s : ByteArray) (h : 8 + Cr.back s ≤ s.size) (w : World) : (Instr.slice 9 (.string (s.extract 8 s.size)) none (some (.int .u32 (Cr.back s : Nat))) none).run Try.prog w = .ok (.string (Cr.text s)) w := by
  rw [run_slice_string_to_if w 9 _ .u32 _ Try.underlying9, if_pos ⟨by omega, by rw [ex_size s 8 _ (Nat.le_refl _)]; omega⟩]
  have : ((Cr.back s : Nat) : Int).toNat = Cr.back s := by omega
  rw [this, text_two s _ h]
  rfl
theorem Cr.text_size (s : ByteArray) (h : 8 + Cr.back s ≤ s.size) : (Cr.text s).size = Cr.back s := by
  unfold Cr.text
  rw [ex_size s 8 _ h]; omega

set_option maxHeartbeats 400000 in
theorem Read_lt (s : ByteArray) (h : s.size < 8) (w : World) :
    Calls Try.prog 31 #[.string s] w (RetBelow (.tuple #[.string ⟨#[]⟩, .int .i64 0, .int .i64 10]) w) := by
  go_enter Try.func31, Try.ntmps31
  go_wp2_with fail
  go_ret3
  exact ⟨rfl, Below.refl _ _⟩

set_option maxHeartbeats 1000000 in
theorem Read_big (s : ByteArray) (h : 8 ≤ s.size) (h1 : 16384 < Cr.back s) (w : World) :
    Calls Try.prog 31 #[.string s] w (RetBelow (.tuple #[.string ⟨#[]⟩, .int .i64 0, .int .i64 8]) w) := by
  have s4 : ∀ w, (Instr.slice 9 (.string s) (some (.int .i64 4)) none none).run Try.prog w = .ok (.string (s.extract 4 s.size)) w := slice_from s 4 (by omega)
  have s8 : ∀ w, (Instr.slice 9 (.string s) (some (.int .i64 8)) none none).run Try.prog w = .ok (.string (s.extract 8 s.size)) w := slice_from s 8 (by omega)
  have e4 : 4 ≤ (s.extract 4 s.size).size := by rw [ex_size s 4 _ (Nat.le_refl _)]; omega
  go_enter Try.func31, Try.ntmps31
  go_wp2_with fail
  go_quiet ((go_at_call 46; first | with_reducible exact Calls.quiet_of (numberOf_any s (by omega) _) | with_reducible exact Calls.quiet_of (numberOf_any (s.extract 4 s.size) e4 _)))
  go_wp2_with fail
  go_ret3
  exact ⟨rfl, below_drewN (Below.refl _ _) _⟩

set_option maxHeartbeats 1000000 in
theorem Read_part (s : ByteArray) (h : 8 ≤ s.size) (h1 : Cr.back s ≤ 16384) (h2 : s.size - 8 < Cr.back s) (w : World) :
    Calls Try.prog 31 #[.string s] w (RetBelow (.tuple #[.string ⟨#[]⟩, .int .i64 0, .int .i64 10]) w) := by
  have s4 : ∀ w, (Instr.slice 9 (.string s) (some (.int .i64 4)) none none).run Try.prog w = .ok (.string (s.extract 4 s.size)) w := slice_from s 4 (by omega)
  have s8 : ∀ w, (Instr.slice 9 (.string s) (some (.int .i64 8)) none none).run Try.prog w = .ok (.string (s.extract 8 s.size)) w := slice_from s 8 (by omega)
  have e4 : 4 ≤ (s.extract 4 s.size).size := by rw [ex_size s 4 _ (Nat.le_refl _)]; omega
  have r8 : (s.extract 8 s.size).size = s.size - 8 := ex_size s 8 _ (Nat.le_refl _)
  go_enter Try.func31, Try.ntmps31
  go_wp2_with fail
  go_quiet ((go_at_call 46; first | with_reducible exact Calls.quiet_of (numberOf_any s (by omega) _) | with_reducible exact Calls.quiet_of (numberOf_any (s.extract 4 s.size) e4 _)))
  go_wp2_with fail
  go_ret3
  exact ⟨rfl, below_drewN (Below.refl _ _) _⟩

set_option maxHeartbeats 1000000 in
theorem Read_sum (s : ByteArray) (h : 8 ≤ s.size) (h1 : Cr.back s ≤ 16384) (h2 : 8 + Cr.back s ≤ s.size) (hs : (((Cr.sum (Cr.text s) : Nat) : Int) != ((Cr.back (s.extract 4 s.size) : Nat) : Int)) = true) (w : World) :
    Calls Try.prog 31 #[.string s] w (RetBelow (.tuple #[.string ⟨#[]⟩, .int .i64 0, .int .i64 11]) w) := by
  have s4 : ∀ w, (Instr.slice 9 (.string s) (some (.int .i64 4)) none none).run Try.prog w = .ok (.string (s.extract 4 s.size)) w := slice_from s 4 (by omega)
  have s8 : ∀ w, (Instr.slice 9 (.string s) (some (.int .i64 8)) none none).run Try.prog w = .ok (.string (s.extract 8 s.size)) w := slice_from s 8 (by omega)
  have e4 : 4 ≤ (s.extract 4 s.size).size := by rw [ex_size s 4 _ (Nat.le_refl _)]; omega
  have r8 : (s.extract 8 s.size).size = s.size - 8 := ex_size s 8 _ (Nat.le_refl _)
  have sT : ∀ w, (Instr.slice 9 (.string (s.extract 8 s.size)) none (some (.int .u32 (Cr.back s : Nat))) none).run Try.prog w = .ok (.string (Cr.text s)) w := slice_text s h2
  have tz := Cr.text_size s h2
  have hs' := Lib.hid hs; clear hs; have hs := Lib.hid hs'.out; clear hs'
  go_enter Try.func31, Try.ntmps31
  go_wp2_with fail
  go_quiet ((go_at_call 46; first | with_reducible exact Calls.quiet_of (numberOf_any s (by omega) _) | with_reducible exact Calls.quiet_of (numberOf_any (s.extract 4 s.size) e4 _)))
  go_wp2_with fail
  refine (Sum_any (Cr.text s) (by rw [Cr.text_size s h2]; omega) _).mono ?_
  rintro e w2 ⟨rfl, rfl⟩
  have HS := hs.out
  go_wp2_with fail
  go_ret3
  exact ⟨rfl, below_drewN (Below.refl _ _) _⟩

set_option maxHeartbeats 1000000 in
theorem Read_ok (s : ByteArray) (h : 8 ≤ s.size) (h1 : Cr.back s ≤ 16384) (h2 : 8 + Cr.back s ≤ s.size) (hs : (((Cr.sum (Cr.text s) : Nat) : Int) != ((Cr.back (s.extract 4 s.size) : Nat) : Int)) = false) (w : World) :
    Calls Try.prog 31 #[.string s] w (RetBelow (.tuple #[.string (Cr.text s), .int .i64 (8 + (Cr.back s : Int)), .int .i64 0]) w) := by
  have s4 : ∀ w, (Instr.slice 9 (.string s) (some (.int .i64 4)) none none).run Try.prog w = .ok (.string (s.extract 4 s.size)) w := slice_from s 4 (by omega)
  have s8 : ∀ w, (Instr.slice 9 (.string s) (some (.int .i64 8)) none none).run Try.prog w = .ok (.string (s.extract 8 s.size)) w := slice_from s 8 (by omega)
  have e4 : 4 ≤ (s.extract 4 s.size).size := by rw [ex_size s 4 _ (Nat.le_refl _)]; omega
  have r8 : (s.extract 8 s.size).size = s.size - 8 := ex_size s 8 _ (Nat.le_refl _)
  have sT : ∀ w, (Instr.slice 9 (.string (s.extract 8 s.size)) none (some (.int .u32 (Cr.back s : Nat))) none).run Try.prog w = .ok (.string (Cr.text s)) w := slice_text s h2
  have tz := Cr.text_size s h2
  have hs' := Lib.hid hs; clear hs; have hs := Lib.hid hs'.out; clear hs'
  go_enter Try.func31, Try.ntmps31
  go_wp2_with fail
  go_quiet ((go_at_call 46; first | with_reducible exact Calls.quiet_of (numberOf_any s (by omega) _) | with_reducible exact Calls.quiet_of (numberOf_any (s.extract 4 s.size) e4 _)))
  go_wp2_with fail
  refine (Sum_any (Cr.text s) (by rw [Cr.text_size s h2]; omega) _).mono ?_
  rintro e w2 ⟨rfl, rfl⟩
  have HS := hs.out
  go_wp2_with fail
  refine (Clone_any (Cr.text s) (by rw [Cr.text_size s h2]; omega) _).mono ?_
  rintro e w3 ⟨rfl, g3⟩
  have G3 := Lib.hid g3; clear g3
  go_wp2_with fail
  go_ret3
  exact ⟨rfl, (below_drewN (Below.refl _ _) _).trans G3.out⟩

end Go.Proofs.Ytcjpednhefeboaa
