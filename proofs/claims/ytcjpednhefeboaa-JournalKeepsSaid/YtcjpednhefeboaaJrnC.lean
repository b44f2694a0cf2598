/- The statements' helper 'few' over texts; a list of texts that came in. -/
import Derived.Test.YtcjpednhefeboaaJrnA
import Derived.SizedLaws
namespace Go.Proofs.Ytcjpednhefeboaa
open Go.RowKit Go.Deep Go.ChangeShapes Go.WideShapes
set_option linter.unusedVariables false

/-- How much a list's first texts are, each counted one more. -/
def weight (S : Nat → ByteArray) : Nat → Nat
  | 0 => 0
  | n + 1 => weight S n + (1 + (S n).size)
theorem weight_le (S : Nat → ByteArray) {n m : Nat} (h : n ≤ m) : weight S n ≤ weight S m := by
  induction m with
  | zero => have : n = 0 := by omega
            subst this; exact Nat.le_refl _
  | succ m ih =>
    rcases Nat.lt_or_ge m n with q | q
    · have : n = m + 1 := by omega
      subst this; exact Nat.le_refl _
    · have := ih q; simp only [weight]; omega
theorem weight_one (S : Nat → ByteArray) {n i : Nat} (h : i < n) : (S i).size < weight S n := by
  have := weight_le S (show i + 1 ≤ n from h)
  simp only [weight] at this
  omega

/-- A Bool, and what it tells where it is true. -/
def TellsFew (S : Nat → ByteArray) (len : Nat) (e : Ending) : Prop := ∃ b, e = .returned (.bool b) ∧ (b = true → weight S len < 60000 ∧ len ≤ 60)

set_option maxRecDepth 8000 in
theorem tFew_any {w : World} {ao : Option Addr} {len cap bb oo : Nat} {S : Nat → ByteArray} (h : Lst w ao len cap bb oo S) (hb : ∀ i, i < len → (S i).size ≤ 140737488351232) :
    Calls Try.prog 12 #[.slice ao len cap] w fun e w' => TellsFew S len e ∧ w = w' := by
  have hs := h.small
  have H := Lib.hid h; have HB := Lib.hid hb; clear h hb
  go_enter Try.func12, Try.ntmps12
  go_wp2_with fail
  go_loop [3, 4] (fun t i => ∃ k : Nat, k ≤ len ∧ i = .int .i64 k ∧ t = .int .i64 (weight S k : Nat) ∧ Hid (weight S k ≤ 140737488551232)) (fun _ i => len - (intOf i).toNat)
  case atStart => exact ⟨0, Nat.zero_le _, rfl, rfl, Nat.zero_le _⟩
  case round =>
    obtain ⟨k, hk, rfl, rfl, hw⟩ := hrel
    have hidx : k < len → ∀ w0, _ := fun hk => H.out.idx k hk
    have hcell : k < len → w.cell? _ = some _ := fun hk => H.out.at0 k hk
    have hz : k < len → (S k).size ≤ 140737488351232 := fun hk => HB.out k hk
    have e1 : weight S (k + 1) = weight S k + (1 + (S k).size) := rfl
    obtain ⟨x, hx⟩ : ∃ x, S k = x := ⟨_, rfl⟩
    rw [hx] at hcell hz e1
    have hw := hw.out
    obtain ⟨q, hq⟩ : ∃ q : Int, ((weight S k : Nat) : Int) = q := ⟨_, rfl⟩
    have hq0 : 0 ≤ q := by omega
    have hq1 : q ≤ 140737488551232 := by omega
    rw [hq]
    have E1 : Hid (((weight S (k + 1) : Nat) : Int) = q + (1 + (x.size : Int))) := Lib.hid (by omega); have HQ := Lib.hid hq
    clear e1 hq hx hw
    by_cases hlt : k < len
    · have hidx := hidx hlt
      have hcell := hcell hlt
      have hz := hz hlt
      by_cases hq6 : q < 60000
      · go_wp2_with fail
        go_round
        case rel => exact ⟨k + 1, by omega, by go_num, by rw [E1.out], Lib.hid (by have := E1.out; omega)⟩
        case measure => simp [intOf]; omega
      · have T : Hid (TellsFew S len (.returned (.bool false))) := Lib.hid ⟨false, rfl, fun h => by cases h⟩
        go_wp2_with fail
        go_ret
        exact ⟨T.out, rfl⟩
    · have hkl : k = len := by omega
      subst hkl
      by_cases hq6 : q < 60000
      · have T : Hid (TellsFew S k (.returned (.bool (decide ((k : Int) ≤ 60))))) := Lib.hid ⟨_, rfl, fun h => ⟨by have := HQ.out; omega, by have := of_decide_eq_true h; omega⟩⟩
        go_wp2_with fail
        go_ret
        exact ⟨T.out, rfl⟩
      · have T : Hid (TellsFew S k (.returned (.bool false))) := Lib.hid ⟨false, rfl, fun h => by cases h⟩
        go_wp2_with fail
        go_ret
        exact ⟨T.out, rfl⟩

end Go.Proofs.Ytcjpednhefeboaa
