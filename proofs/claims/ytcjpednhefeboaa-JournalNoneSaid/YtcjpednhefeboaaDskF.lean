/- A disk that is none; the chapter's examples. -/
import Derived.Test.YtcjpednhefeboaaDskE
import Derived.Deep.OwnRows
namespace Go.Proofs.Ytcjpednhefeboaa
open Go.RowKit
set_option linter.unusedVariables false

theorem Write_nil (s : ByteArray) (w : World) : Calls Try.prog 15 #[.pointer none, .string s] w fun e w' => e = .returned (.int .i64 1) ∧ w = w' := by
  go_enter Try.func15, Try.ntmps15
  go_wp2_with fail
  go_ret
  exact ⟨rfl, rfl⟩

theorem Replace_nil (s : ByteArray) (w : World) : Calls Try.prog 38 #[.pointer none, .string s] w fun e w' => e = .returned (.int .i64 1) ∧ w = w' := by
  go_enter Try.func38, Try.ntmps38
  go_wp2_with fail
  go_ret
  exact ⟨rfl, rfl⟩

theorem Content_nil (w : World) : Calls Try.prog 21 #[.pointer none] w fun e w' => e = .returned (.string ⟨#[]⟩) ∧ w = w' := by
  go_enter Try.func21, Try.ntmps21
  go_wp2_with fail
  go_ret
  exact ⟨rfl, rfl⟩

theorem Waiting_nil (w : World) : Calls Try.prog 25 #[.pointer none] w fun e w' => e = .returned (.int .i64 0) ∧ w = w' := by
  go_enter Try.func25, Try.ntmps25
  go_wp2_with fail
  go_ret
  exact ⟨rfl, rfl⟩

theorem Free_nil (w : World) : Calls Try.prog 34 #[.pointer none] w fun e w' => e = .returned (.int .i64 0) ∧ w = w' := by
  go_enter Try.func34, Try.ntmps34
  go_wp2_with fail
  go_ret
  exact ⟨rfl, rfl⟩

theorem Sync_nil (w : World) : Calls Try.prog 17 #[.pointer none] w fun e w' => e = .returned (.tuple #[]) ∧ w = w' := by
  go_enter Try.func17, Try.ntmps17
  go_wp2_with fail
  go_end0
  exact ⟨rfl, rfl⟩

theorem Crash_nil (k : Int) (w : World) : Calls Try.prog 29 #[.pointer none, .int .i64 k] w fun e w' => e = .returned (.tuple #[]) ∧ w = w' := by
  go_enter Try.func29, Try.ntmps29
  go_wp2_with fail
  refine bodyPost_ret (results_none rfl _ _ _) rfl ?_
  exact ⟨rfl, rfl⟩

theorem dw1 : (Dk.new 100).write ⟨#[97, 98, 99]⟩ = ⟨100, [], [97, 98, 99], false⟩ := by decide +kernel
theorem dw2 : (⟨100, [], [97, 98, 99], false⟩ : Dk).crash 2 = ⟨100, [97, 98], [97, 98], false⟩ := by decide +kernel
theorem dw3 : (⟨100, [97, 98], [97, 98], false⟩ : Dk).replace ⟨#[120, 121, 122]⟩ = ⟨100, [97, 98], [120, 121, 122], true⟩ := by decide +kernel
theorem dw4 : (⟨100, [97, 98], [120, 121, 122], true⟩ : Dk).crash 2 = ⟨100, [97, 98], [97, 98], false⟩ := by decide +kernel
theorem dw5 : (⟨100, [97, 98], [120, 121, 122], true⟩ : Dk).crash 3 = ⟨100, [120, 121, 122], [120, 121, 122], false⟩ := by decide +kernel

/-- 98 bytes, laid, read as a text. -/
theorem zeros_text (w : World) : ∃ w2, (Instr.makeSlice 59 (.int .i64 98) (.int .i64 98)).run Try.prog w = .ok (.slice (some ⟨w.heap.size, 0, none⟩) 98 98) w2 ∧ (convert 59 9 (.slice (some ⟨w.heap.size, 0, none⟩) 98 98)).run Try.prog w2 = .ok (.string ⟨(List.replicate 98 (0 : UInt8)).toArray⟩) w2 ∧ Below w.heap.size w w2 := by
  have hm := run_make_row' 59 5 (.int .u8 0) 1 Try.underlying59 byte_info rfl .i64 .i64 98 (by decide) (by decide) w
  refine ⟨_, hm, ?_, (Below.refl _ _).alloc (Nat.le_refl _) _⟩
  have hat : ∀ C j, (w.alloc (.cells C 5)).cell? ⟨w.heap.size, j, none⟩ = C[j]? := fun C j => World.cell?_alloc_at (w := w) C _ _ j rfl
  have hc : ∀ j, j < 98 → (madeCells #[Value.int .u8 0] 98)[j]? = some (.int .u8 0) := fun j hj => by simp [madeCells, hj, Nat.mod_one]
  have := row_text (w := w.alloc (.cells (madeCells #[Value.int .u8 0] 98) 5)) (F := fun _ => False) (cap := 98) (ao := some ⟨w.heap.size, 0, none⟩) (l := List.replicate 98 (0 : UInt8))
    (.inr ⟨w.heap.size, rfl, id, by simp, by simp, fun j hj => by rw [hat, hc j (by simpa using hj), List.getElem_replicate]; rfl, fun j hj => by rw [hat, hc j hj]; rfl, fun j hj => World.frozen?_alloc_at (w := w) _ _ _ j rfl⟩)
  simpa using this

end Go.Proofs.Ytcjpednhefeboaa
