/- The landed commands: may numbers, gangs be told? -/
import Derived.Test.YtpnfhcpapjomnaaCmdB
namespace Go.Proofs.Ytpnfhcpapjomnaa
open Go.RowKit
set_option linter.unusedVariables false

set_option maxHeartbeats 400000 in
theorem mayBe_any (l : List Int) (b o : Nat) (w : World) (hc : ∀ (j : Nat) x, l[j]? = some x → w.cell? ⟨b, o + j, none⟩ = some (.int .i64 x)) (m : Nat) (hm : l.length = m) (hs : m ≤ 100) :
    Calls Try.prog 25 #[.slice (some ⟨b, o, none⟩) m m] w fun e w' => e = .returned (.bool (l.all Cm.ok)) ∧ w = w' := by
  obtain ⟨z, hz⟩ : ∃ z : Int, (m : Int) = z := ⟨_, rfl⟩
  have HM := Lib.hid hm; have HC := Lib.hid hc
  clear hm hc
  go_enter Try.func25, Try.ntmps25
  go_wp2_with fail
  go_loopw [7] (fun i wr => ∃ (j : Int), i = .int .i64 j ∧ 0 ≤ j ∧ j ≤ z ∧ Hid (∀ k : Nat, k < j.toNat → ∀ x, l[k]? = some x → Cm.ok x = true) ∧ wr = w) (fun i _ => (z - intOf i).toNat)
  case atStart => exact ⟨0, rfl, by omega, by omega, fun k hk => by simp at hk, rfl⟩
  case round =>
    obtain ⟨j, rfl, hj0, hjz, hd, rfl⟩ := hrel
    by_cases hlt : j < z
    · obtain ⟨x, hx⟩ : ∃ x, l[j.toNat]? = some x := ⟨_, List.getElem?_eq_getElem (by have := HM.out; omega)⟩
      have hcell := HC.out j.toNat x hx
      have HX := Lib.hid hx; clear hx
      by_cases h0 : x < 0
      · have hf : Hid (l.all Cm.ok = false) := Lib.hid (by
          rw [List.all_eq_false]
          exact ⟨x, List.mem_of_getElem? HX.out, by rw [Cm.ok_iff]; omega⟩)
        go_wp2_with fail
        go_ret
        exact ⟨by rw [hf.out]; rfl, rfl⟩
      · by_cases h1 : 1099511627776 < x
        · have hf : Hid (l.all Cm.ok = false) := Lib.hid (by
            rw [List.all_eq_false]
            exact ⟨x, List.mem_of_getElem? HX.out, by rw [Cm.ok_iff]; omega⟩)
          go_wp2_with fail
          go_ret
          exact ⟨by rw [hf.out]; rfl, rfl⟩
        · go_wp2_with fail
          go_roundw
          case rel =>
            refine ⟨j + 1, rfl, by omega, by omega, fun k hk y hy => ?_, trivial⟩
            by_cases e : k = j.toNat
            · subst e
              rw [HX.out] at hy
              injection hy with hy
              rw [← hy, Cm.ok_iff]
              omega
            · exact hd.out k (by omega) y hy
          case measure => simp [intOf]; omega
    · have hf : Hid (l.all Cm.ok = true) := Lib.hid (by
        rw [List.all_eq_true]
        intro x hx
        obtain ⟨k, hk, e⟩ := List.mem_iff_getElem.1 hx
        exact hd.out k (by have := HM.out; omega) x (by rw [List.getElem?_eq_getElem hk, e]))
      go_wp2_with fail
      go_ret
      exact ⟨by rw [hf.out]; rfl, rfl⟩

theorem in_cells0 (w : World) (l : List Int) (T : TypeId) : ∀ (j : Nat) x, l[j]? = some x → (w.alloc (.cells (l.map (Value.int .i64)).toArray T)).cell? ⟨w.heap.size, 0 + j, none⟩ = some (.int .i64 x) := fun j x hx => by
  rw [Nat.zero_add]
  exact in_cells w l T j x hx
theorem mayBe1 (x : Int) (w : World) (n : Nat) (hn : w.heap.size = n) : Calls Try.prog 25 #[.slice (some ⟨n, 0, none⟩) 1 1] (w.alloc (.cells #[.int .i64 x] 3)) fun e w' => e = .returned (.bool (Cm.ok x)) ∧ w.alloc (.cells #[.int .i64 x] 3) = w' := by
  subst hn
  have h := mayBe_any [x] w.heap.size 0 _ (in_cells0 w [x] 3) 1 rfl (by decide)
  rw [show [x].all Cm.ok = Cm.ok x by simp] at h
  exact h
theorem mayBe2 (x y : Int) (w : World) (n : Nat) (hn : w.heap.size = n) : Calls Try.prog 25 #[.slice (some ⟨n, 0, none⟩) 2 2] (w.alloc (.cells #[.int .i64 x, .int .i64 y] 3)) fun e w' => e = .returned (.bool (Cm.ok x && Cm.ok y)) ∧ w.alloc (.cells #[.int .i64 x, .int .i64 y] 3) = w' := by
  subst hn
  have h := mayBe_any [x, y] w.heap.size 0 _ (in_cells0 w [x, y] 3) 2 rfl (by decide)
  rw [show [x, y].all Cm.ok = (Cm.ok x && Cm.ok y) by simp] at h
  exact h
theorem mayBe3 (x y z : Int) (w : World) (n : Nat) (hn : w.heap.size = n) : Calls Try.prog 25 #[.slice (some ⟨n, 0, none⟩) 3 3] (w.alloc (.cells #[.int .i64 x, .int .i64 y, .int .i64 z] 3)) fun e w' => e = .returned (.bool (Cm.ok x && Cm.ok y && Cm.ok z)) ∧ w.alloc (.cells #[.int .i64 x, .int .i64 y, .int .i64 z] 3) = w' := by
  subst hn
  have h := mayBe_any [x, y, z] w.heap.size 0 _ (in_cells0 w [x, y, z] 3) 3 rfl (by decide)
  rw [show [x, y, z].all Cm.ok = (Cm.ok x && Cm.ok y && Cm.ok z) by simp [Bool.and_assoc]] at h
  exact h
theorem mayBe6 (a b c d e f : Int) (w : World) (n : Nat) (hn : w.heap.size = n) : Calls Try.prog 25 #[.slice (some ⟨n, 0, none⟩) 6 6] (w.alloc (.cells #[.int .i64 a, .int .i64 b, .int .i64 c, .int .i64 d, .int .i64 e, .int .i64 f] 3)) fun r w' => r = .returned (.bool (Cm.ok a && Cm.ok b && Cm.ok c && Cm.ok d && Cm.ok e && Cm.ok f)) ∧ w.alloc (.cells #[.int .i64 a, .int .i64 b, .int .i64 c, .int .i64 d, .int .i64 e, .int .i64 f] 3) = w' := by
  subst hn
  have h := mayBe_any [a, b, c, d, e, f] w.heap.size 0 _ (in_cells0 w [a, b, c, d, e, f] 3) 6 rfl (by decide)
  rw [show [a, b, c, d, e, f].all Cm.ok = (Cm.ok a && Cm.ok b && Cm.ok c && Cm.ok d && Cm.ok e && Cm.ok f) by simp [Bool.and_assoc]] at h
  exact h
/-- An amount that lies in a block. -/
theorem mayBeV (v : V3) (b o : Nat) (w : World) (h : w.rangeAt b o [.int .i64 v.x, .int .i64 v.y, .int .i64 v.z]) : Calls Try.prog 25 #[.slice (some ⟨b, o, none⟩) 3 3] w fun e w' => e = .returned (.bool (Cm.okV v)) ∧ w = w' := by
  obtain ⟨x, y, z⟩ := v
  have h' := mayBe_any [x, y, z] b o w (fun j u hu => by
    refine h j _ ?_
    rcases j with _ | _ | _ | j
    · simp only [List.getElem?_cons_zero, Option.some.injEq] at hu ⊢; rw [hu]
    · simp only [List.getElem?_cons_succ, List.getElem?_cons_zero, Option.some.injEq] at hu ⊢; rw [hu]
    · simp only [List.getElem?_cons_succ, List.getElem?_cons_zero, Option.some.injEq] at hu ⊢; rw [hu]
    · simp at hu) 3 rfl (by decide)
  rw [show [x, y, z].all Cm.ok = Cm.okV ⟨x, y, z⟩ by simp [Cm.okV, Bool.and_assoc]] at h'
  exact h'

set_option maxRecDepth 4000 in
theorem mayBeGang_any (g : Gg) (w : World) : Calls Try.prog 24 #[.agg g.c] w (RetBelow (.bool (Cm.okG g)) w) := by
  obtain ⟨a, b, c, ⟨x, y, z⟩, d, e, f⟩ := g
  have hr : Hid (Cm.okG ⟨a, b, c, ⟨x, y, z⟩, d, e, f⟩ = (Cm.ok a && Cm.ok b && Cm.ok c && Cm.ok d && Cm.ok e && Cm.ok f && Cm.okV ⟨x, y, z⟩)) := Lib.hid rfl
  unfold Gg.c
  simp only
  go_enter Try.func24, Try.ntmps24
  go_wp2_with fail
  refine (mayBe6 _ _ _ _ _ _ _ _ (by simp)).mono ?_
  rintro er w1 ⟨rfl, hw1⟩
  obtain ⟨r, hrr⟩ : ∃ r, (Cm.ok a && Cm.ok b && Cm.ok c && Cm.ok d && Cm.ok e && Cm.ok f) = r := ⟨_, rfl⟩
  rw [hrr] at hr ⊢
  clear hrr
  have hrg : w1.rangeAt w.heap.size 3 [.int .i64 x, .int .i64 y, .int .i64 z] := hw1 ▸ node_at _ _ _ _ _ _ rfl rfl rfl
  have gW : Below w.heap.size w w1 := hw1 ▸ two_below _ _ _
  have HR := Lib.hid hrg; have GW := Lib.hid gW
  clear hrg gW hw1
  cases r
  · go_wp2_with fail
    go_ret
    exact ⟨by rw [hr.out]; rfl, GW.out⟩
  · go_wp2_with fail
    refine (mayBeV ⟨x, y, z⟩ _ _ _ HR.out).mono ?_
    rintro er w2 ⟨rfl, rfl⟩
    obtain ⟨q, hq⟩ : ∃ q, Cm.okV ⟨x, y, z⟩ = q := ⟨_, rfl⟩
    rw [hq] at hr ⊢
    clear hq
    go_wp2_with fail
    go_ret
    exact ⟨by rw [hr.out]; rfl, GW.out⟩

end Go.Proofs.Ytpnfhcpapjomnaa
