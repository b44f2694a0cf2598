/- A disk that is none; the chapter's examples. -/
import Derived.Test.YtigampjbhicfcaaDskE
import Derived.Deep.OwnRows
namespace Go.Proofs.Ytigampjbhicfcaa
open Go.RowKit
set_option linter.unusedVariables false

theorem Write_nil (s : ByteArray) (w : World) : Calls Try.prog 12 #[.pointer none, .string s] w fun e w' => e = .returned (.int .i64 1) ∧ w = w' := by
  go_enter Try.func12, Try.ntmps12
  go_wp2_with fail
  go_ret
  exact ⟨rfl, rfl⟩

theorem Replace_nil (s : ByteArray) (w : World) : Calls Try.prog 14 #[.pointer none, .string s] w fun e w' => e = .returned (.int .i64 1) ∧ w = w' := by
  go_enter Try.func14, Try.ntmps14
  go_wp2_with fail
  go_ret
  exact ⟨rfl, rfl⟩

theorem Content_nil (w : World) : Calls Try.prog 10 #[.pointer none] w fun e w' => e = .returned (.string ⟨#[]⟩) ∧ w = w' := by
  go_enter Try.func10, Try.ntmps10
  go_wp2_with fail
  go_ret
  exact ⟨rfl, rfl⟩

theorem Waiting_nil (w : World) : Calls Try.prog 16 #[.pointer none] w fun e w' => e = .returned (.int .i64 0) ∧ w = w' := by
  go_enter Try.func16, Try.ntmps16
  go_wp2_with fail
  go_ret
  exact ⟨rfl, rfl⟩

theorem Free_nil (w : World) : Calls Try.prog 17 #[.pointer none] w fun e w' => e = .returned (.int .i64 0) ∧ w = w' := by
  go_enter Try.func17, Try.ntmps17
  go_wp2_with fail
  go_ret
  exact ⟨rfl, rfl⟩

theorem Sync_nil (w : World) : Calls Try.prog 13 #[.pointer none] w fun e w' => e = .returned (.tuple #[]) ∧ w = w' := by
  go_enter Try.func13, Try.ntmps13
  go_wp2_with fail
  go_end0
  exact ⟨rfl, rfl⟩

theorem Crash_nil (k : Int) (w : World) : Calls Try.prog 15 #[.pointer none, .int .i64 k] w fun e w' => e = .returned (.tuple #[]) ∧ w = w' := by
  go_enter Try.func15, Try.ntmps15
  go_wp2_with fail
  refine bodyPost_ret (results_none rfl _ _ _) rfl ?_
  exact ⟨rfl, rfl⟩

theorem dw1 : (Dk.new 100).write ⟨#[97, 98, 99]⟩ = ⟨100, [], [97, 98, 99], false⟩ := by decide +kernel
theorem dw2 : (⟨100, [], [97, 98, 99], false⟩ : Dk).crash 2 = ⟨100, [97, 98], [97, 98], false⟩ := by decide +kernel
theorem dw3 : (⟨100, [97, 98], [97, 98], false⟩ : Dk).replace ⟨#[120, 121, 122]⟩ = ⟨100, [97, 98], [120, 121, 122], true⟩ := by decide +kernel
theorem dw4 : (⟨100, [97, 98], [120, 121, 122], true⟩ : Dk).crash 2 = ⟨100, [97, 98], [97, 98], false⟩ := by decide +kernel
theorem dw5 : (⟨100, [97, 98], [120, 121, 122], true⟩ : Dk).crash 3 = ⟨100, [120, 121, 122], [120, 121, 122], false⟩ := by decide +kernel

/-- 98 bytes, laid, read as a text. -/
theorem zeros_text (w : World) : ∃ w2, (Instr.makeSlice 43 (.int .i64 98) (.int .i64 98)).run Try.prog w = .ok (.slice (some ⟨w.heap.size, 0, none⟩) 98 98) w2 ∧ (convert 43 9 (.slice (some ⟨w.heap.size, 0, none⟩) 98 98)).run Try.prog w2 = .ok (.string ⟨(List.replicate 98 (0 : UInt8)).toArray⟩) w2 ∧ Below w.heap.size w w2 := by
  have hm := run_make_row' 43 5 (.int .u8 0) 1 Try.underlying43 byte_info rfl .i64 .i64 98 (by decide) (by decide) w
  refine ⟨_, hm, ?_, (Below.refl _ _).alloc (Nat.le_refl _) _⟩
  have hat : ∀ C j, (w.alloc (.cells C 5)).cell? ⟨w.heap.size, j, none⟩ = C[j]? := fun C j => World.cell?_alloc_at (w := w) C _ _ j rfl
  have hc : ∀ j, j < 98 → (madeCells #[Value.int .u8 0] 98)[j]? = some (.int .u8 0) := fun j hj => by simp [madeCells, hj, Nat.mod_one]
  have := row_text (w := w.alloc (.cells (madeCells #[Value.int .u8 0] 98) 5)) (F := fun _ => False) (cap := 98) (ao := some ⟨w.heap.size, 0, none⟩) (l := List.replicate 98 (0 : UInt8))
    (.inr ⟨w.heap.size, rfl, id, by simp, by simp, fun j hj => by rw [hat, hc j (by simpa using hj), List.getElem_replicate]; rfl, fun j hj => by rw [hat, hc j hj]; rfl, fun j hj => World.frozen?_alloc_at (w := w) _ _ _ j rfl⟩)
  simpa using this

set_option maxHeartbeats 1000000 in
theorem dAwake_any (w : World) : Calls Try.prog 9 #[] w (RetBelow (.bool true) w) := by
  have hz := Lib.hid zeros_text
  have c1 := New_any (F := fun k => k < w.heap.size) 100 w (fun _ h => h)
  go_enter Try.func9, Try.ntmps9
  go_wp2_with fail
  refine c1.mono ?_
  rintro e w1 ⟨rfl, h1, g1⟩
  have G1 := Lib.hid g1; clear g1 c1
  have c := Lib.hid (Write_any h1 ⟨#[97, 98, 99]⟩); rw [dw1] at c; clear h1
  go_wp2_with fail
  refine c.out.mono ?_
  rintro e w2 ⟨rfl, h2, g⟩
  have G2 := Lib.hid (G1.out.trans (g.below fun _ h => h)); clear g c
  have c := Lib.hid (Crash_any h2 2); rw [dw2] at c; clear h2
  go_wp2_with fail
  refine c.out.mono ?_
  rintro e w3 ⟨rfl, h3, g⟩
  have G3 := Lib.hid (G2.out.trans (g.below fun _ h => h)); clear g c
  have c := Lib.hid (Content_any h3); have H3 := Lib.hid h3; clear h3
  go_wp2_with fail
  refine c.out.mono ?_
  rintro e w4 ⟨rfl, rfl⟩
  clear c; have c := Lib.hid (Replace_any H3.out ⟨#[120, 121, 122]⟩); rw [dw3] at c; clear H3
  go_wp2_with fail
  refine c.out.mono ?_
  rintro e w4 ⟨rfl, h4, g⟩
  have G4 := Lib.hid (G3.out.trans (g.below fun _ h => h)); clear g c
  have c := Lib.hid (Crash_any h4 2); rw [dw4] at c; clear h4
  go_wp2_with fail
  refine c.out.mono ?_
  rintro e w5 ⟨rfl, h5, g⟩
  have G5 := Lib.hid (G4.out.trans (g.below fun _ h => h)); clear g c
  have c := Lib.hid (Content_any h5); have H5 := Lib.hid h5; clear h5
  go_wp2_with fail
  refine c.out.mono ?_
  rintro e w6 ⟨rfl, rfl⟩
  clear c; have c := Lib.hid (Replace_any H5.out ⟨#[120, 121, 122]⟩); rw [dw3] at c; clear H5
  go_wp2_with fail
  refine c.out.mono ?_
  rintro e w6 ⟨rfl, h6, g⟩
  have G6 := Lib.hid (G5.out.trans (g.below fun _ h => h)); clear g c
  have c := Lib.hid (Crash_any h6 3); rw [dw5] at c; clear h6
  go_wp2_with fail
  refine c.out.mono ?_
  rintro e w7 ⟨rfl, h7, g⟩
  have G7 := Lib.hid (G6.out.trans (g.below fun _ h => h)); clear g c
  have c := Lib.hid (Content_any h7); have H7 := Lib.hid h7; clear h7
  go_wp2_with fail
  refine c.out.mono ?_
  rintro e w8 ⟨rfl, rfl⟩
  clear c; have c := Lib.hid (Free_any H7.out)
  go_wp2_with fail
  refine c.out.mono ?_
  rintro e w8 ⟨rfl, n, rfl⟩
  clear c
  obtain ⟨w9, hm, ht, g⟩ := hz.out (w7.drewN n)
  change Sem.run _ (convert _ _ (.slice (some ⟨w7.heap.size, 0, none⟩) 98 98)) w9 = _ at ht
  have H8 : At (w7.drewN n) (fun k => k < w.heap.size) w.heap.size ⟨100, [120, 121, 122], [120, 121, 122], false⟩ := H7.out
  have H9 := H8.kept g
  have c := Lib.hid (Write_any H9 ⟨(List.replicate 98 (0 : UInt8)).toArray⟩)
  have G9 := Lib.hid ((below_drewN G7.out n).trans (g.mono G7.out.size)); clear g H7 H8 H9
  go_wp2_with fail
  refine c.out.mono ?_
  rintro e w10 ⟨rfl, h10, g⟩
  have G10 := Lib.hid (G9.out.trans (g.below fun _ h => h)); clear g c h10
  go_wp2_with fail
  go_ret
  exact ⟨rfl, G10.out⟩

end Go.Proofs.Ytigampjbhicfcaa
