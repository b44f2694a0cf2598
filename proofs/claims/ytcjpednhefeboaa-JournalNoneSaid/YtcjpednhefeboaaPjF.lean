/- The program's journal where it, or its disk, is none. -/
import Derived.Test.YtcjpednhefeboaaPjE
import Derived.Test.YtcjpednhefeboaaJV
import Derived.Test.YtcjpednhefeboaaDskF
namespace Go.Proofs.Ytcjpednhefeboaa
open Go.RowKit
set_option linter.unusedVariables false

/-- A journal on a disk that is none: on a new one that has no room. -/
def NoneAt (w : World) (B j : Nat) : Prop := B ≤ w.heap.size ∧ ∃ D, Pja w (fun k => k < B) j D (Dk.new 0) 0
theorem NoneAt.kept {w w' : World} {B j : Nat} (h : NoneAt w B j) (g : Below w.heap.size w w') : NoneAt w' B j := by
  obtain ⟨hB, D, h⟩ := h
  exact ⟨Nat.le_trans hB g.size, D, h.below g⟩
theorem scan_empty : Jn.scan ⟨#[]⟩ = ([], 0) := Jn.scan_stop (by decide +kernel)
theorem text_empty : Jn.text (Dk.new 0) = ⟨#[]⟩ := by decide +kernel
theorem opened_empty : Jn.opened (Dk.new 0) = Dk.new 0 := by
  unfold Jn.opened
  rw [text_empty, scan_empty]
  decide +kernel

theorem Open_nil (w : World) : Calls Try.prog 19 #[.pointer none] w fun e w' => ∃ j ao cap, e = .returned (.tuple #[.pointer (some ⟨j, 0, none⟩), .slice ao 0 cap]) ∧ NoneAt w' w.heap.size j ∧ Below w.heap.size w w' := by
  have hn := Lib.hid (New_any 0 w (F := fun k => k < w.heap.size) (fun _ h => h))
  obtain ⟨B, hBB⟩ : ∃ B, w.heap.size = B := ⟨_, rfl⟩
  rw [hBB] at hn ⊢
  go_enter Try.func19, Try.ntmps19
  go_wp2_with fail
  refine hn.out.mono ?_
  rintro e w1 ⟨rfl, a1, g1⟩
  have hct := Content_any a1
  change Calls _ _ _ _ (fun e w' => e = .returned (.string (Jn.text (Dk.new 0))) ∧ w1 = w') at hct
  rw [text_empty] at hct
  have hsc := Scan_any ⟨#[]⟩ (by decide) w1
  unfold Scans at hsc
  rw [scan_empty] at hsc
  have HC := Lib.hid hct; have HS := Lib.hid hsc
  have A1 := Lib.hid (And.intro a1 g1)
  clear hct hsc a1 g1 hn
  go_wp2_with fail
  refine HC.out.mono ?_
  rintro e w2 ⟨rfl, rfl⟩
  go_wp2_with fail
  refine HS.out.mono ?_
  rintro e w2 ⟨ao, cap, rfl, t1, hg1, g2⟩
  have E : Hid (∃ j ao' cap', Ending.returned (.tuple #[.pointer (some ⟨w2.heap.size, 0, none⟩), .slice ao 0 cap]) = .returned (.tuple #[.pointer (some ⟨j, 0, none⟩), .slice ao' 0 cap']) ∧ NoneAt (w2.alloc (.cells #[.pointer (some ⟨B, 0, none⟩), .int .i64 0] 63)) B j ∧ Below B w (w2.alloc (.cells #[.pointer (some ⟨B, 0, none⟩), .int .i64 0] 63))) := Lib.hid (by
    have a2 : At w2 (fun k => k < B) B (Dk.new 0) := A1.out.1.mono (G := fun _ => False) (Keeps.of_below g2 fun _ q => q.1) (fun _ q => q.elim) _ fun k q => .inl q
    have hz : B ≤ w2.heap.size := Nat.le_trans (hBB ▸ A1.out.2.size) g2.size
    have gB : Below B w (w2.alloc (.cells #[.pointer (some ⟨B, 0, none⟩), .int .i64 0] 63)) := (A1.out.2.trans (g2.mono (hBB ▸ A1.out.2.size))).alloc hz _
    refine ⟨w2.heap.size, ao, cap, rfl, ⟨by simp; omega, B, World.cell?_alloc_at (w := w2) _ _ _ 0 rfl, World.cell?_alloc_at (w := w2) _ _ _ 1 rfl, World.frozen?_alloc_at (w := w2) _ _ _ 1 rfl, by omega, ?_⟩, gB⟩
    refine a2.mono (G := fun _ => False) ((Keeps.refl _ w2).alloc (fun k hk => hk.1) _) (fun _ q => q.elim) _ fun k q => ?_
    rcases q with q | q
    · exact .inl q
    · subst q; exact .inr ⟨Nat.le_refl _, by simp⟩)
  clear t1 hg1 g2 HC HS A1
  go_wp2_with fail
  go_ret2
  exact E.out

theorem Append_none {w : World} {B j : Nat} (h : NoneAt w B j) (s : ByteArray) (hb : s.size ≤ 16384) : Calls Try.prog 22 #[.pointer (some ⟨j, 0, none⟩), .string s] w fun e w' => e = .returned (.int .i64 9) ∧ Below B w w' := by
  obtain ⟨hB, D, h⟩ := h
  have hc := Append_any h s (by decide)
  have e : Jn.app (Dk.new 0) 0 s = (9, Dk.new 0, 0) := by
    unfold Jn.app
    have h1 : (Cr.frame s).size = s.size + 8 := Cr.frame_size s
    have h2 : (Dk.new 0).free = 0 := by decide +kernel
    rw [if_neg (by omega), if_pos (by rw [h1, h2]; omega)]
  rw [e] at hc
  refine hc.mono ?_
  rintro e w' ⟨rfl, _, k⟩
  exact ⟨rfl, k.below fun _ h => h⟩

theorem Append_nil (s : ByteArray) (w : World) : Calls Try.prog 22 #[.pointer none, .string s] w fun e w' => e = .returned (.int .i64 1) ∧ w = w' := by
  go_enter Try.func22, Try.ntmps22
  go_wp2_with fail
  go_ret
  exact ⟨rfl, rfl⟩
theorem Reset_nil (ao : Option Addr) (n cap : Nat) (w : World) : Calls Try.prog 26 #[.pointer none, .slice ao n cap] w fun e w' => e = .returned (.int .i64 1) ∧ w = w' := by
  go_enter Try.func26, Try.ntmps26
  go_wp2_with fail
  go_ret
  exact ⟨rfl, rfl⟩
theorem Records_nil (w : World) : Calls Try.prog 24 #[.pointer none] w fun e w' => e = .returned (.int .i64 0) ∧ w = w' := by
  go_enter Try.func24, Try.ntmps24
  go_wp2_with fail
  go_ret
  exact ⟨rfl, rfl⟩

def theJN : JN where
  None := NoneAt
  kept := fun h g => h.kept g
  open_ := Open_nil
  append := fun h s hs => Append_none h s hs
  appendNil := Append_nil
  resetNil := Reset_nil
  recordsNil := Records_nil

end Go.Proofs.Ytcjpednhefeboaa
