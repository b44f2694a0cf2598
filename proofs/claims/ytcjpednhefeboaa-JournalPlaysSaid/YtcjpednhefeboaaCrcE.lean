/- CRC-32C: what the reference reads. -/
import Derived.Test.YtcjpednhefeboaaCrcD
namespace Go.Proofs.Ytcjpednhefeboaa
open Go.RowKit
set_option linter.unusedVariables false

section
variable {P : Program} {f : FuncId} {args : Array Value} {w : World} {a n : Nat} {v : Value}
/-- A quiet region behind a draw. -/
theorem quiet_add (h : Calls P f args (w.drewN (a + n)) (RetDrew v (w.drewN (a + n)))) : Calls P f args (w.drewN (a + n)) fun e w'' => e = .returned v ∧ ∃ m, w'' = w.drewN (a + m) :=
  h.mono fun _ _ ⟨he, m, hm⟩ => ⟨he, n + m, by rw [hm, World.drewN_drewN, Nat.add_assoc]⟩
theorem quiet_add_left (h : Calls P f args (w.drewN (a + n)) fun e w' => e = .returned v ∧ w.drewN (a + n) = w') : Calls P f args (w.drewN (a + n)) fun e w'' => e = .returned v ∧ ∃ m, w'' = w.drewN (a + m) :=
  h.mono fun _ _ ⟨he, hm⟩ => ⟨he, n, hm.symm⟩
end

theorem slice_mid (s : ByteArray) (h : 8 + Cr.back s ≤ s.size) (w : World) : (Instr.slice 9 (.string s) (some (.int .i64 8)) (some (.int .i64 (8 + (Cr.back s : Int)))) none).run Try.prog w = .ok (.string (Cr.text s)) w := by
  rw [run_slice_string w 9 s .i64 .i64 8 (8 + (Cr.back s : Int)) Try.underlying9 (by omega) (by omega) (by omega)]
  have : (8 + (Cr.back s : Int)).toNat = 8 + Cr.back s := by omega
  rw [this]
  rfl

set_option maxHeartbeats 400000 in
theorem rRead_lt (s : ByteArray) (h : s.size < 8) (w : World) :
    Calls Try.prog 32 #[.string s] w (RetBelow (.tuple #[.string ⟨#[]⟩, .int .i64 0, .int .i64 10]) w) := by
  go_enter Try.func32, Try.ntmps32
  go_wp2_with fail
  go_ret3
  exact ⟨rfl, Below.refl _ _⟩

set_option maxHeartbeats 1000000 in
theorem rRead_big (s : ByteArray) (h : 8 ≤ s.size) (h1 : 16384 < Cr.back s) (w : World) :
    Calls Try.prog 32 #[.string s] w (RetBelow (.tuple #[.string ⟨#[]⟩, .int .i64 0, .int .i64 8]) w) := by
  go_enter Try.func32, Try.ntmps32
  go_wp2_with fail
  refine (rBack_any s (by omega) _).mono ?_
  rintro e w1 ⟨rfl, n1, rfl⟩
  go_wp2_with fail
  go_ret3
  exact ⟨rfl, below_drewN (Below.refl _ _) _⟩

set_option maxHeartbeats 1000000 in
theorem rRead_part (s : ByteArray) (h : 8 ≤ s.size) (h1 : Cr.back s ≤ 16384) (h2 : s.size - 8 < Cr.back s) (w : World) :
    Calls Try.prog 32 #[.string s] w (RetBelow (.tuple #[.string ⟨#[]⟩, .int .i64 0, .int .i64 10]) w) := by
  go_enter Try.func32, Try.ntmps32
  go_wp2_with fail
  refine (rBack_any s (by omega) _).mono ?_
  rintro e w1 ⟨rfl, n1, rfl⟩
  go_wp2_with fail
  go_ret3
  exact ⟨rfl, below_drewN (Below.refl _ _) _⟩

set_option maxHeartbeats 1000000 in
theorem rRead_sum (s : ByteArray) (hl : s.size ≤ 9000000000000000000) (h : 8 ≤ s.size) (h1 : Cr.back s ≤ 16384) (h2 : 8 + Cr.back s ≤ s.size) (hs : (((Cr.sum (Cr.text s) : Nat) : Int) != ((Cr.back (s.extract 4 s.size) : Nat) : Int)) = true) (w : World) :
    Calls Try.prog 32 #[.string s] w (RetBelow (.tuple #[.string ⟨#[]⟩, .int .i64 0, .int .i64 11]) w) := by
  have s4 : ∀ w, (Instr.slice 9 (.string s) (some (.int .i64 4)) none none).run Try.prog w = .ok (.string (s.extract 4 s.size)) w := slice_from s 4 (by omega)
  have e4 : 4 ≤ (s.extract 4 s.size).size := by rw [ex_size s 4 _ (Nat.le_refl _)]; omega
  have sT : ∀ w, (Instr.slice 9 (.string s) (some (.int .i64 8)) (some (.int .i64 (8 + (Cr.back s : Int)))) none).run Try.prog w = .ok (.string (Cr.text s)) w := slice_mid s h2
  have hs' := Lib.hid hs; clear hs
  go_enter Try.func32, Try.ntmps32
  go_wp2_with fail
  refine (rBack_any s (by omega) _).mono ?_
  rintro e w1 ⟨rfl, n1, rfl⟩
  go_wp2_with fail
  go_quiet ((first | (go_at_call 49; with_reducible exact quiet_add (rBack_any (s.extract 4 s.size) e4 _)) | (go_at_call 45; with_reducible exact quiet_add_left (rSum_any (Cr.text s) (by rw [Cr.text_size s h2]; omega) _))))
  have hs := hs'.out
  go_wp2_with fail
  go_ret3
  exact ⟨rfl, below_drewN (below_drewN (Below.refl _ _) _) _⟩

set_option maxHeartbeats 1000000 in
theorem rRead_ok (s : ByteArray) (hl : s.size ≤ 9000000000000000000) (h : 8 ≤ s.size) (h1 : Cr.back s ≤ 16384) (h2 : 8 + Cr.back s ≤ s.size) (hs : (((Cr.sum (Cr.text s) : Nat) : Int) != ((Cr.back (s.extract 4 s.size) : Nat) : Int)) = false) (w : World) :
    Calls Try.prog 32 #[.string s] w (RetBelow (.tuple #[.string (Cr.text s), .int .i64 (8 + (Cr.back s : Int)), .int .i64 0]) w) := by
  have s4 : ∀ w, (Instr.slice 9 (.string s) (some (.int .i64 4)) none none).run Try.prog w = .ok (.string (s.extract 4 s.size)) w := slice_from s 4 (by omega)
  have e4 : 4 ≤ (s.extract 4 s.size).size := by rw [ex_size s 4 _ (Nat.le_refl _)]; omega
  have sT : ∀ w, (Instr.slice 9 (.string s) (some (.int .i64 8)) (some (.int .i64 (8 + (Cr.back s : Int)))) none).run Try.prog w = .ok (.string (Cr.text s)) w := slice_mid s h2
  have hs' := Lib.hid hs; clear hs
  go_enter Try.func32, Try.ntmps32
  go_wp2_with fail
  refine (rBack_any s (by omega) _).mono ?_
  rintro e w1 ⟨rfl, n1, rfl⟩
  go_wp2_with fail
  go_quiet ((first | (go_at_call 49; with_reducible exact quiet_add (rBack_any (s.extract 4 s.size) e4 _)) | (go_at_call 45; with_reducible exact quiet_add_left (rSum_any (Cr.text s) (by rw [Cr.text_size s h2]; omega) _))))
  have hs := hs'.out
  go_wp2_with fail
  go_ret3
  exact ⟨rfl, below_drewN (Below.refl _ _) _⟩

/-- What is read: the text, how many bytes, the error. -/
def Cr.read (s : ByteArray) : ByteArray × Int × Int :=
  if s.size < 8 then (⟨#[]⟩, 0, 10) else if 16384 < Cr.back s then (⟨#[]⟩, 0, 8) else if s.size - 8 < Cr.back s then (⟨#[]⟩, 0, 10)
  else if Cr.sum (Cr.text s) = Cr.back (s.extract 4 s.size) then (Cr.text s, 8 + (Cr.back s : Int), 0) else (⟨#[]⟩, 0, 11)
/-- What a reader hands back. -/
def Cr.ans (r : ByteArray × Int × Int) : Value := .tuple #[.string r.1, .int .i64 r.2.1, .int .i64 r.2.2]

theorem Read_any (s : ByteArray) (w : World) : Calls Try.prog 31 #[.string s] w (RetBelow (Cr.ans (Cr.read s)) w) := by
  unfold Cr.read
  by_cases h : s.size < 8
  · rw [if_pos h]; exact Read_lt s h w
  rw [if_neg h]
  by_cases h1 : 16384 < Cr.back s
  · rw [if_pos h1]; exact Read_big s (by omega) h1 w
  rw [if_neg h1]
  by_cases h2 : s.size - 8 < Cr.back s
  · rw [if_pos h2]; exact Read_part s (by omega) (by omega) h2 w
  rw [if_neg h2]
  by_cases h3 : Cr.sum (Cr.text s) = Cr.back (s.extract 4 s.size)
  · rw [if_pos h3]; exact Read_ok s (by omega) (by omega) (by omega) (by simp [h3]) w
  · rw [if_neg h3]; exact Read_sum s (by omega) (by omega) (by omega) (by simp; omega) w

theorem rRead_any (s : ByteArray) (hl : s.size ≤ 9000000000000000000) (w : World) : Calls Try.prog 32 #[.string s] w (RetBelow (Cr.ans (Cr.read s)) w) := by
  unfold Cr.read
  by_cases h : s.size < 8
  · rw [if_pos h]; exact rRead_lt s h w
  rw [if_neg h]
  by_cases h1 : 16384 < Cr.back s
  · rw [if_pos h1]; exact rRead_big s (by omega) h1 w
  rw [if_neg h1]
  by_cases h2 : s.size - 8 < Cr.back s
  · rw [if_pos h2]; exact rRead_part s (by omega) (by omega) h2 w
  rw [if_neg h2]
  by_cases h3 : Cr.sum (Cr.text s) = Cr.back (s.extract 4 s.size)
  · rw [if_pos h3]; exact rRead_ok s hl (by omega) (by omega) (by omega) (by simp [h3]) w
  · rw [if_neg h3]; exact rRead_sum s hl (by omega) (by omega) (by omega) (by simp; omega) w

end Go.Proofs.Ytcjpednhefeboaa
