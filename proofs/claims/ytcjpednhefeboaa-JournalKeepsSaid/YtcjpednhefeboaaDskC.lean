/- A disk's methods: what only reads. -/
import Derived.Test.YtcjpednhefeboaaDskB
namespace Go.Proofs.Ytcjpednhefeboaa
open Go.RowKit
set_option linter.unusedVariables false

theorem within_any (n : Int) (m : Nat) (hm : m ≤ 9223372036854775807) (w : World) :
    Calls Try.prog 33 #[.int .i64 n, .int .i64 (m : Int)] w fun e w' => e = .returned (.int .i64 ((min n.toNat m : Nat) : Int)) ∧ w = w' := by
  go_enter Try.func33, Try.ntmps33
  go_wp2_with fail
  all_goals (go_ret; refine ⟨ret_i64 ?_, rfl⟩; first | omega | (rename_i a; rw [if_pos h] at a; omega) | (rename_i a; rw [if_neg (by omega)] at a; omega))

theorem Content_any {w : World} {F : Nat → Prop} {D : Nat} {d : Dk} (h : At w F D d) :
    Calls Try.prog 21 #[.pointer (some ⟨D, 0, none⟩)] w fun e w' => e = .returned (.string ⟨d.S.toArray⟩) ∧ w = w' := by
  obtain ⟨sa, sc, aa, ac, ⟨c0, c1, c2, c3⟩, ⟨f1, f2, f3⟩, hB, r1, r2, n1, n2, sh, hg⟩ := h
  have ht := row_text r1
  clear r1 r2 n1 n2 sh hg c0 c2 c3 f1 f2 f3
  go_enter Try.func21, Try.ntmps21
  go_wp2_with fail
  go_ret
  exact ⟨rfl, rfl⟩

theorem Waiting_any {w : World} {F : Nat → Prop} {D : Nat} {d : Dk} (h : At w F D d) :
    Calls Try.prog 25 #[.pointer (some ⟨D, 0, none⟩)] w (RetDrew (.int .i64 (d.waiting : Int)) w) := by
  obtain ⟨sa, sc, aa, ac, ⟨c0, c1, c2, c3⟩, ⟨f1, f2, f3⟩, hB, r1, r2, n1, n2, sh, hg⟩ := h
  have hA := hg.aLe
  have hS := hg.sLe
  have hz := hg.sz
  have hp : d.repl = false → d.S.length ≤ d.A.length := fun e => (hg.pre e).length_le
  clear r1 r2 n1 n2 sh hg c0 f1 f2 f3
  rcases hr : d.repl with _ | _
  · have hp := hp hr
    have e : d.waiting = d.A.length - d.S.length := by unfold Dk.waiting; rw [hr]; rfl
    rw [e]
    rw [hr] at c3
    clear hr e
    go_enter Try.func25, Try.ntmps25
    go_wp2_with fail
    go_quiet (fail)
    go_wp2_with fail
    go_ret
    refine ⟨ret_i64 ?_, _, rfl⟩
    omega
  · have e : d.waiting = d.A.length := by unfold Dk.waiting; rw [hr]; rfl
    rw [e]
    rw [hr] at c3
    clear hr e hp
    go_enter Try.func25, Try.ntmps25
    go_wp2_with fail
    go_ret
    exact ⟨rfl, 0, rfl⟩

theorem Free_any {w : World} {F : Nat → Prop} {D : Nat} {d : Dk} (h : At w F D d) :
    Calls Try.prog 34 #[.pointer (some ⟨D, 0, none⟩)] w (RetDrew (.int .i64 (d.free : Int)) w) := by
  obtain ⟨sa, sc, aa, ac, ⟨c0, c1, c2, c3⟩, ⟨f1, f2, f3⟩, hB, r1, r2, n1, n2, sh, hg⟩ := h
  have hA := hg.aLe
  have hz := hg.sz
  clear r1 r2 n1 n2 sh hg c1 c3 f1 f2 f3
  unfold Dk.free
  go_enter Try.func34, Try.ntmps34
  go_wp2_with fail
  go_quiet (fail)
  go_wp2_with fail
  go_ret
  refine ⟨ret_i64 ?_, _, rfl⟩
  omega

theorem New_any (n : Int) (w : World) {F : Nat → Prop} (hF : ∀ k, F k → k < w.heap.size) :
    Calls Try.prog 13 #[.int .i64 n] w fun e w' => e = .returned (.pointer (some ⟨w.heap.size, 0, none⟩)) ∧ At w' F w.heap.size (Dk.new n) ∧ Below w.heap.size w w' := by
  have hw := fun w => within_any n 1048576 (by decide) w
  go_enter Try.func13, Try.ntmps13
  go_wp2_with fail
  refine (hw _).mono ?_
  rintro e w1 ⟨rfl, rfl⟩
  go_wp2_with fail
  go_ret
  refine ⟨rfl, ⟨none, 0, none, 0, ⟨?_, ?_, ?_, ?_⟩, ⟨?_, ?_, ?_⟩, ⟨fun h => absurd (hF _ h) (Nat.lt_irrefl _), fun k hk => by have := hF k hk; simp; omega⟩, Row.none_ _ _, Row.none_ _ _, (by intro b e; cases e), (by intro b e; cases e), (by intro a e; cases e), Dk.Good.new n⟩, (Below.refl _ _).alloc (Nat.le_refl _) _⟩
  · exact World.cell?_alloc_at (w := w) _ _ _ 0 rfl
  · exact World.cell?_alloc_at (w := w) _ _ _ 1 rfl
  · exact World.cell?_alloc_at (w := w) _ _ _ 2 rfl
  · exact World.cell?_alloc_at (w := w) _ _ _ 3 rfl
  · exact World.frozen?_alloc_at (w := w) _ _ _ 1 rfl
  · exact World.frozen?_alloc_at (w := w) _ _ _ 2 rfl
  · exact World.frozen?_alloc_at (w := w) _ _ _ 3 rfl

end Go.Proofs.Ytcjpednhefeboaa
