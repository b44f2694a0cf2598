/- The statement's helper 'few'; the plain answer's disk of size 0, fresh: each method once. -/
import Derived.Test.YtigampjbhicfcaaDskG
import Derived.Test.YtigampjbhicfcaaDeed
import Derived.RegionTactic
import Derived.ChangeAlike
namespace Go.Proofs.Ytigampjbhicfcaa
open Go.RowKit
set_option linter.unusedVariables false

/-- Some Bool, some number is returned. -/
def SomeBool (e : Ending) : Prop := ∃ b, e = .returned (.bool b)
def SomeInt (e : Ending) : Prop := ∃ v, e = .returned (.int .i64 v)
theorem someBool {b : Bool} : SomeBool (.returned (.bool b)) := ⟨b, rfl⟩
theorem someInt {v : Int} : SomeInt (.returned (.int .i64 v)) := ⟨v, rfl⟩

theorem few_any {w : World} {ao : Option Addr} {len cap bb oo : Nat} {K N : Nat → Int} {S : Nat → ByteArray} (h : Deeds w ao len cap bb oo K N S) :
    Calls Try.prog 8 #[.slice ao len cap] w fun e w' => SomeBool e ∧ w = w' := by
  have hs := h.small
  have H := Lib.hid h; clear h
  go_enter Try.func8, Try.ntmps8
  go_wp2_with fail
  go_loop [3, 4] (fun t i => ∃ k : Nat, k ≤ len ∧ i = .int .i64 k ∧ ∃ q : Int, t = .int .i64 q) (fun _ i => len - (intOf i).toNat)
  case atStart => exact ⟨0, Nat.zero_le _, rfl, 0, rfl⟩
  case round =>
    obtain ⟨k, hk, rfl, q, rfl⟩ := hrel
    have hidx : k < len → ∀ w0, _ := fun hk => H.out.idx k hk
    have hcell : k < len → w.cell? _ = some _ := fun hk => H.out.at2 k hk
    go_wp2_with fail
    · go_round
      case rel => exact ⟨k + 1, by omega, by go_num, _, rfl⟩
      case measure => simp [intOf]; omega
    all_goals (go_ret; exact ⟨someBool, rfl⟩)

/-- The plain answer's disk of size 0, in memory. -/
def Nul (w : World) (X : Nat) (q : Bool) : Prop := Four w X (.int .i64 0) (.string ⟨#[]⟩) (.string ⟨#[]⟩) (.bool q)

theorem RefFree_any {w : World} {X : Nat} {q : Bool} (h : Nul w X q) :
    Calls Try.prog 23 #[.pointer (some ⟨X, 0, none⟩)] w (RetDrew (.int .i64 0) w) := by
  have c0 := h.c0; have c1 := h.c1; have c2 := h.c2; have c3 := h.c3
  clear h
  rcases q with _ | _
  · go_enter Try.func23, Try.ntmps23
    go_wp2_with fail
    go_quiet (fail)
    go_wp2_with fail
    go_ret
    exact ⟨rfl, _, rfl⟩
  · go_enter Try.func23, Try.ntmps23
    go_wp2_with fail
    go_quiet (fail)
    go_wp2_with fail
    go_ret
    exact ⟨rfl, _, rfl⟩

/-- Behind a call that turns X's block alone. -/
def Turns (X : Nat) (q : Bool) (w w' : World) : Prop := Nul w' X q ∧ Keeps (fun k => k < w.heap.size ∧ ¬ k = X) w w'
theorem Nul.drewN {w : World} {X : Nat} {q : Bool} (h : Nul w X q) (n : Nat) : Nul (w.drewN n) X q := ⟨h.c0, h.c1, h.c2, h.c3, h.f1, h.f2, h.f3⟩
theorem Nul.lt {w : World} {X : Nat} {q : Bool} (h : Nul w X q) : X < w.heap.size := World.block_lt_of_cell? w _ h.c0

theorem none_none : ((⟨#[]⟩ : ByteArray) ++ (⟨#[]⟩ : ByteArray)) = ⟨#[]⟩ := by decide +kernel

theorem RefWrite_any {w : World} {X : Nat} (h : Nul w X false) (s : ByteArray) :
    Calls Try.prog 19 #[.pointer (some ⟨X, 0, none⟩), .string s] w fun e w' => SomeInt e ∧ Turns X false w w' := by
  have hf := RefFree_any h
  have c2 := h.c2; have f2 := h.f2
  have HF := Lib.hid hf; have H := Lib.hid h
  clear hf h
  by_cases h0 : 0 < s.size
  · go_enter Try.func19, Try.ntmps19
    go_wp2_with fail
    refine HF.out.mono ?_
    rintro e w1 ⟨rfl, n, rfl⟩
    go_wp2_with fail
    go_ret
    exact ⟨someInt, H.out.drewN n, (Keeps.refl _ _).drewN n⟩
  · have hs : s = ⟨#[]⟩ := by
      obtain ⟨d⟩ := s
      have : d.size = 0 := by
        have h : (ByteArray.mk d).size = d.size := rfl
        omega
      rw [Array.eq_empty_of_size_eq_zero this]
    subst hs
    clear h0
    go_enter Try.func19, Try.ntmps19
    go_wp2_with fail
    refine HF.out.mono ?_
    rintro e w1 ⟨rfl, n, rfl⟩
    go_wp2_with fail
    go_ret
    have hN : Nul (w.setCell ⟨X, 2, none⟩ (.string ((⟨#[]⟩ : ByteArray) ++ (⟨#[]⟩ : ByteArray)))) X false := by
      have := Four.s2 H.out (.string ((⟨#[]⟩ : ByteArray) ++ (⟨#[]⟩ : ByteArray)))
      rwa [none_none] at this ⊢
    exact ⟨someInt, hN.drewN n, ((Keeps.refl _ _).setCell (p := ⟨X, 2, none⟩) (fun h => h.2 rfl) _).drewN n⟩

theorem RefReplace_any {w : World} {X : Nat} (h : Nul w X false) (s : ByteArray) :
    Calls Try.prog 21 #[.pointer (some ⟨X, 0, none⟩), .string s] w fun e w' => SomeInt e ∧ ∃ q, Turns X q w w' := by
  have c0 := h.c0; have c2 := h.c2; have f2 := h.f2; have c3 := h.c3; have f3 := h.f3
  have H := Lib.hid h
  clear h
  by_cases h0 : 0 < s.size
  · go_enter Try.func21, Try.ntmps21
    go_wp2_with fail
    go_ret
    exact ⟨someInt, false, H.out, Keeps.refl _ _⟩
  · have hs : s = ⟨#[]⟩ := by
      obtain ⟨d⟩ := s
      have : d.size = 0 := by
        have h : (ByteArray.mk d).size = d.size := rfl
        omega
      rw [Array.eq_empty_of_size_eq_zero this]
    subst hs
    clear h0
    go_enter Try.func21, Try.ntmps21
    go_wp2_with fail
    go_ret
    exact ⟨someInt, true, (Four.s2 H.out _).s3 _, ((Keeps.refl _ _).setCell (p := ⟨X, 2, none⟩) (fun h => h.2 rfl) _).setCell (p := ⟨X, 3, none⟩) (fun h => h.2 rfl) _⟩

theorem RefCrash_any {w : World} {X : Nat} (h : Nul w X false) (k : Int) :
    Calls Try.prog 22 #[.pointer (some ⟨X, 0, none⟩), .int .i64 k] w fun e w' => e = .returned (.tuple #[]) ∧ Turns X false w w' := by
  have c1 := h.c1; have c2 := h.c2; have c3 := h.c3; have f1 := h.f1; have f2 := h.f2; have f3 := h.f3
  have H := Lib.hid h
  clear h
  have hsl : ∀ w, (Instr.slice 9 (.string ⟨#[]⟩) none (some (.int .i64 0)) none).run Try.prog w = .ok (.string ⟨#[]⟩) w := fun w => by kernel_rfl
  have hN : Nul (((w.setCell ⟨X, 1, none⟩ (.string ((⟨#[]⟩ : ByteArray) ++ (⟨#[]⟩ : ByteArray)))).setCell ⟨X, 2, none⟩ (.string ⟨#[]⟩)).setCell ⟨X, 3, none⟩ (.bool false)) X false := by
    have := ((Four.s1 H.out (.string ((⟨#[]⟩ : ByteArray) ++ (⟨#[]⟩ : ByteArray)))).s2 (.string ⟨#[]⟩)).s3 (.bool false)
    rwa [none_none] at this ⊢
  have hT := And.intro (hN.drewN 1) ((((((Keeps.refl (fun k => k < w.heap.size ∧ ¬ k = X) w).setCell (p := ⟨X, 1, none⟩) (fun h => h.2 rfl) (.string ((⟨#[]⟩ : ByteArray) ++ (⟨#[]⟩ : ByteArray)))).setCell (p := ⟨X, 2, none⟩) (fun h => h.2 rfl) (.string ⟨#[]⟩)).setCell (p := ⟨X, 3, none⟩) (fun h => h.2 rfl) (.bool false))).drewN 1)
  have HT := Lib.hid hT
  clear hN hT
  by_cases hk : k ≤ 0
  · go_enter Try.func22, Try.ntmps22
    go_wp2_with fail
    go_region
    all_goals go_wp2_with fail
    all_goals go_end0
    all_goals exact ⟨rfl, HT.out⟩
  · go_enter Try.func22, Try.ntmps22
    go_wp2_with fail
    go_region
    all_goals go_wp2_with fail
    all_goals go_end0
    all_goals exact ⟨rfl, HT.out⟩

theorem RefSync_any {w : World} {X : Nat} (h : Nul w X false) :
    Calls Try.prog 20 #[.pointer (some ⟨X, 0, none⟩)] w fun e w' => e = .returned (.tuple #[]) ∧ Turns X false w w' := by
  have c2 := h.c2
  have hc := RefCrash_any h 0
  have HC := Lib.hid hc
  clear h hc
  go_enter Try.func20, Try.ntmps20
  go_wp2_with fail
  refine HC.out.mono ?_
  rintro e w1 ⟨rfl, g⟩
  have G := Lib.hid g; clear g
  go_wp2_with fail
  go_end0
  exact ⟨rfl, G.out⟩

end Go.Proofs.Ytigampjbhicfcaa
