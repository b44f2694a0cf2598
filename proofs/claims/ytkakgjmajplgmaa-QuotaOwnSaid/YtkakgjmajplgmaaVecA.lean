/- Amounts: the walker over all resources. -/
import Derived.Test.YtkakgjmajplgmaaStill
namespace Go.Proofs.Ytkakgjmajplgmaa
open Go.RowKit
set_option linter.unusedVariables false

def AtEnd (I : Nat → World → Prop) (n : Nat) (v : Value) (e : Ending) (w : World) : Prop := e = .returned v ∧ I n w

/-- A function of the program is entered when it is called by its value. -/
def Enters (k : Nat) (cap : Array Value) : Prop := ∀ (r : Int) (w : World), (callFunc k (#[.int .i64 r] ++ cap)).run Try.prog w = .ok (.enter k (#[.int .i64 r] ++ cap)) w

set_option maxHeartbeats 400000 in
theorem each_any (k : Nat) (cap : Array Value) (hk : Enters k cap) (I : Nat → World → Prop) (hc : ∀ r : Nat, r < 3 → ∀ w, I r w → Calls Try.prog k (#[.int .i64 (r : Int)] ++ cap) w (AtEnd I (r + 1) (.tuple #[]))) (w : World) (h0 : I 0 w) :
    Calls Try.prog 52 #[.func (.func k) #[] cap] w (AtEnd I 3 (.tuple #[])) := by
  go_enter Try.func52, Try.ntmps52
  go_wp2_with fail
  go_loopw [3] (fun i wr => ∃ r : Nat, r ≤ 3 ∧ i = .int .i64 (r : Int) ∧ I r wr) (fun i _ => 3 - (intOf i).toNat)
  case atStart => exact ⟨0, by omega, rfl, h0⟩
  case round =>
    obtain ⟨r, hr, rfl, hI⟩ := hrel
    by_cases hlt : r < 3
    · have he := hk r wr
      go_wp2_with fail
      refine (hc r hlt wr hI).mono ?_
      rintro e w' ⟨rfl, hI'⟩
      clear he
      go_wp2_with fail
      go_roundw
      case rel => exact ⟨r + 1, by omega, by go_num, hI'⟩
      case measure => simp [intOf]; omega
    · obtain rfl : r = 3 := by omega
      go_wp2
      go_end0
      exact ⟨rfl, hI⟩

end Go.Proofs.Ytkakgjmajplgmaa
