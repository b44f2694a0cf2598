/- A journal that is none, and one on a disk that is none: the statement's walk, over what the program's journal is held to there. -/
import Derived.Test.YtcjpednhefeboaaJA
namespace Go.Proofs.Ytcjpednhefeboaa
open Go.RowKit
set_option linter.unusedVariables false

/-- What the program's journal is held to where it, or its disk, is none. -/
structure JN where
  None : World → Nat → Nat → Prop
  kept : ∀ {w w' : World} {B j : Nat}, None w B j → Below w.heap.size w w' → None w' B j
  open_ : ∀ w, Calls Try.prog 19 #[.pointer none] w fun e w' => ∃ j ao cap, e = .returned (.tuple #[.pointer (some ⟨j, 0, none⟩), .slice ao 0 cap]) ∧ None w' w.heap.size j ∧ Below w.heap.size w w'
  append : ∀ {w : World} {B j : Nat}, None w B j → ∀ (s : ByteArray), s.size ≤ 16384 → Calls Try.prog 22 #[.pointer (some ⟨j, 0, none⟩), .string s] w fun e w' => e = .returned (.int .i64 9) ∧ Below B w w'
  appendNil : ∀ (s : ByteArray) (w : World), Calls Try.prog 22 #[.pointer none, .string s] w fun e w' => e = .returned (.int .i64 1) ∧ w = w'
  resetNil : ∀ (ao : Option Addr) (n cap : Nat) (w : World), Calls Try.prog 26 #[.pointer none, .slice ao n cap] w fun e w' => e = .returned (.int .i64 1) ∧ w = w'
  recordsNil : ∀ (w : World), Calls Try.prog 24 #[.pointer none] w fun e w' => e = .returned (.int .i64 0) ∧ w = w'

set_option maxRecDepth 8000 in
set_option maxHeartbeats 1000000 in
theorem JournalNone_walk (C : JC) (O : JN) (s : ByteArray) (w : World) : Calls Try.prog 7 #[.string s] w (RetBelow (.bool true) w) := by
  have a := Lib.hid (jAwake_any C)
  obtain ⟨z, hz⟩ : ∃ z : Int, (s.size : Int) = z := ⟨_, rfl⟩
  have c := Lib.hid (O.open_ w)
  have q1 := Lib.hid (O.appendNil s); have q2 := Lib.hid (fun ao n cap w => O.resetNil ao n cap w); have q3 := Lib.hid O.recordsNil
  go_enter Try.func7, Try.ntmps7
  go_wp2_with fail
  refine c.out.mono ?_
  rintro e w1 ⟨j, ao, cap, rfl, hn, g⟩
  have G := Lib.hid g; have HN := Lib.hid hn
  clear g hn c
  go_wp2_with fail
  refine (q1.out _).mono ?_
  rintro e w2 ⟨rfl, rfl⟩
  go_wp2_with fail
  refine (q2.out _ _ _ _).mono ?_
  rintro e w2 ⟨rfl, rfl⟩
  have G2 : Hid (Below w.heap.size w (w1.alloc (.cells #[.string s] 9))) := Lib.hid (G.out.alloc G.out.size _)
  have HN2 : Hid (O.None (w1.alloc (.cells #[.string s] 9)) w.heap.size j) := Lib.hid (O.kept HN.out ((Below.refl _ _).alloc (Nat.le_refl _) _))
  clear G HN
  go_wp2_with fail
  refine (q3.out _).mono ?_
  rintro e w2 ⟨rfl, rfl⟩
  by_cases hb : 16384 < z
  · go_wp2_with fail
    refine (a.out _).mono ?_
    rintro e w3 ⟨rfl, g⟩
    have G3 := Lib.hid (G2.out.trans (g.mono G2.out.size)); clear g
    go_wp2_with fail
    go_ret
    exact ⟨rfl, G3.out⟩
  · have c := Lib.hid (O.append HN2.out s (by omega))
    go_wp2_with fail
    refine c.out.mono ?_
    rintro e w3 ⟨rfl, g⟩
    have G3 := Lib.hid (G2.out.trans g); clear g
    go_wp2_with fail
    refine (a.out _).mono ?_
    rintro e w4 ⟨rfl, g⟩
    have G4 := Lib.hid (G3.out.trans (g.mono G3.out.size)); clear g
    go_wp2_with fail
    go_ret
    exact ⟨rfl, G4.out⟩

end Go.Proofs.Ytcjpednhefeboaa
