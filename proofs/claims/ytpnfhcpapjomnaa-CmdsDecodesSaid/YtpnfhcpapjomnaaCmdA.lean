/- Commands in memory; the plain answer's tests of numbers, amounts, gangs. -/
import Derived.Test.YtpnfhcpapjomnaaCmdQ
import Derived.Test.YtpnfhcpapjomnaaNumS
import Derived.Deep.MidRow
import Derived.Deep.WholeRow
namespace Go.Proofs.Ytpnfhcpapjomnaa
open Go.RowKit
set_option linter.unusedVariables false

/-- A slice of flat structs of k cells: where each lies, what it holds. -/
structure Sl {α : Type} (enc : α → Array Value) (T : TypeId) (k : Nat) (w : World) (ao : Option Addr) (cap bb oo : Nat) (l : List α) : Prop where
  small : l.length ≤ 9223372036854775807
  lt : 0 < l.length → bb < w.heap.size
  idx : ∀ i : Nat, i < l.length → ∀ w0, (Instr.indexAt T (.slice ao l.length cap) (.int .i64 (i : Int))).run Try.prog w0 = .ok (.pointer (some ⟨bb, oo + i * k, none⟩)) w0
  at_ : ∀ (i : Nat) x, l[i]? = some x → w.rangeAt bb (oo + i * k) (enc x).toList

theorem Sl.kept {α : Type} {enc : α → Array Value} {T : TypeId} {k : Nat} {w w' : World} {ao : Option Addr} {cap bb oo : Nat} {l : List α} (h : Sl enc T k w ao cap bb oo l) (g : Below w.heap.size w w') : Sl enc T k w' ao cap bb oo l :=
  ⟨h.small, fun h0 => Nat.lt_of_lt_of_le (h.lt h0) g.size, h.idx, fun i x hi j v hj => by
    have hl : i < l.length := by
      rcases Nat.lt_or_ge i l.length with q | q
      · exact q
      · rw [List.getElem?_eq_none q] at hi; cases hi
    exact (g.cell (p := ⟨bb, _, none⟩) (h.lt (by omega))).trans (h.at_ i x hi j v hj)⟩
/-- The same from a base below which all is as it was. -/
theorem Sl.from {α : Type} {enc : α → Array Value} {T : TypeId} {k B : Nat} {w w' : World} {ao : Option Addr} {cap bb oo : Nat} {l : List α} (h : Sl enc T k w ao cap bb oo l) (hB : w.heap.size ≤ B) (g : Below B w w') : Sl enc T k w' ao cap bb oo l := h.kept (g.mono hB)

def Cf (nv hv : Value) (half age : Int) : Array Value := #[nv, hv, .int .i64 half, .int .i64 age]
def Cmd.c (c : Cmd) (nv hv : Value) : Array Value := #[.int .i64 c.kind, nv, hv, .int .i64 c.half, .int .i64 c.age, .int .i64 c.gang.id, .int .i64 c.gang.ten, .int .i64 c.gang.pods, .int .i64 c.gang.need.x, .int .i64 c.gang.need.y, .int .i64 c.gang.need.z, .int .i64 c.gang.run, .int .i64 c.gang.lev, .int .i64 c.gang.pre, .int .i64 c.n]

set_option maxHeartbeats 400000 in
theorem rIn_any (l : List Int) (b : Nat) (w : World) (hc : ∀ (j : Nat) x, l[j]? = some x → w.cell? ⟨b, j, none⟩ = some (.int .i64 x)) (m : Nat) (hm : l.length = m) (hs : m ≤ 100) :
    Calls Try.prog 29 #[.slice (some ⟨b, 0, none⟩) m m] w fun e w' => e = .returned (.bool (l.all Cm.ok)) ∧ w = w' := by
  obtain ⟨z, hz⟩ : ∃ z : Int, (m : Int) = z := ⟨_, rfl⟩
  have HM := Lib.hid hm; have HC := Lib.hid hc
  clear hm hc
  go_enter Try.func29, Try.ntmps29
  go_wp2_with fail
  go_loopw [3] (fun i wr => ∃ (j : Int), i = .int .i64 j ∧ 0 ≤ j ∧ j ≤ z ∧ Hid (∀ k : Nat, k < j.toNat → ∀ x, l[k]? = some x → Cm.ok x = true) ∧ wr = w) (fun i _ => (z - intOf i).toNat)
  case atStart => exact ⟨0, rfl, by omega, by omega, fun k hk => by simp at hk, rfl⟩
  case round =>
    obtain ⟨j, rfl, hj0, hjz, hd, rfl⟩ := hrel
    by_cases hlt : j < z
    · obtain ⟨x, hx⟩ : ∃ x, l[j.toNat]? = some x := ⟨_, List.getElem?_eq_getElem (by have := HM.out; omega)⟩
      have hcell := HC.out j.toNat x hx
      have HX := Lib.hid hx; clear hx
      by_cases h0 : x < 0
      · have hf : Hid (l.all Cm.ok = false) := Lib.hid (by
          rw [List.all_eq_false]
          exact ⟨x, List.mem_of_getElem? HX.out, by rw [Cm.ok_iff]; omega⟩)
        go_wp2_with fail
        go_ret
        exact ⟨by rw [hf.out]; rfl, rfl⟩
      · by_cases h1 : 1099511627776 < x
        · have hf : Hid (l.all Cm.ok = false) := Lib.hid (by
            rw [List.all_eq_false]
            exact ⟨x, List.mem_of_getElem? HX.out, by rw [Cm.ok_iff]; omega⟩)
          go_wp2_with fail
          go_ret
          exact ⟨by rw [hf.out]; rfl, rfl⟩
        · go_wp2_with fail
          go_roundw
          case rel =>
            refine ⟨j + 1, rfl, by omega, by omega, fun k hk y hy => ?_, trivial⟩
            by_cases e : k = j.toNat
            · subst e
              rw [HX.out] at hy
              injection hy with hy
              rw [← hy, Cm.ok_iff]
              omega
            · exact hd.out k (by omega) y hy
          case measure => simp [intOf]; omega
    · have hf : Hid (l.all Cm.ok = true) := Lib.hid (by
        rw [List.all_eq_true]
        intro x hx
        obtain ⟨k, hk, e⟩ := List.mem_iff_getElem.1 hx
        exact hd.out k (by have := HM.out; omega) x (by rw [List.getElem?_eq_getElem hk, e]))
      go_wp2_with fail
      go_ret
      exact ⟨by rw [hf.out]; rfl, rfl⟩

/-- Numbers in a block that was just made. -/
theorem in_cells (w : World) (l : List Int) (T : TypeId) : ∀ (j : Nat) x, l[j]? = some x → (w.alloc (.cells (l.map (Value.int .i64)).toArray T)).cell? ⟨w.heap.size, j, none⟩ = some (.int .i64 x) := by
  intro j x hx
  refine (World.cell?_alloc_at (w := w) _ _ _ j rfl).trans ?_
  simp [hx]

theorem rIn1 (x : Int) (w : World) (n : Nat) (hn : w.heap.size = n) : Calls Try.prog 29 #[.slice (some ⟨n, 0, none⟩) 1 1] (w.alloc (.cells #[.int .i64 x] 3)) fun e w' => e = .returned (.bool (Cm.ok x)) ∧ w.alloc (.cells #[.int .i64 x] 3) = w' := by
  subst hn
  have h := rIn_any [x] w.heap.size _ (in_cells w [x] 3) 1 rfl (by decide)
  rw [show [x].all Cm.ok = Cm.ok x by simp] at h
  exact h
theorem rIn2 (x y : Int) (w : World) (n : Nat) (hn : w.heap.size = n) : Calls Try.prog 29 #[.slice (some ⟨n, 0, none⟩) 2 2] (w.alloc (.cells #[.int .i64 x, .int .i64 y] 3)) fun e w' => e = .returned (.bool (Cm.ok x && Cm.ok y)) ∧ w.alloc (.cells #[.int .i64 x, .int .i64 y] 3) = w' := by
  subst hn
  have h := rIn_any [x, y] w.heap.size _ (in_cells w [x, y] 3) 2 rfl (by decide)
  rw [show [x, y].all Cm.ok = (Cm.ok x && Cm.ok y) by simp] at h
  exact h
theorem rIn3 (x y z : Int) (w : World) (n : Nat) (hn : w.heap.size = n) : Calls Try.prog 29 #[.slice (some ⟨n, 0, none⟩) 3 3] (w.alloc (.cells #[.int .i64 x, .int .i64 y, .int .i64 z] 3)) fun e w' => e = .returned (.bool (Cm.ok x && Cm.ok y && Cm.ok z)) ∧ w.alloc (.cells #[.int .i64 x, .int .i64 y, .int .i64 z] 3) = w' := by
  subst hn
  have h := rIn_any [x, y, z] w.heap.size _ (in_cells w [x, y, z] 3) 3 rfl (by decide)
  rw [show [x, y, z].all Cm.ok = (Cm.ok x && Cm.ok y && Cm.ok z) by simp [Bool.and_assoc]] at h
  exact h
theorem rIn6 (a b c d e f : Int) (w : World) (n : Nat) (hn : w.heap.size = n) : Calls Try.prog 29 #[.slice (some ⟨n, 0, none⟩) 6 6] (w.alloc (.cells #[.int .i64 a, .int .i64 b, .int .i64 c, .int .i64 d, .int .i64 e, .int .i64 f] 3)) fun r w' => r = .returned (.bool (Cm.ok a && Cm.ok b && Cm.ok c && Cm.ok d && Cm.ok e && Cm.ok f)) ∧ w.alloc (.cells #[.int .i64 a, .int .i64 b, .int .i64 c, .int .i64 d, .int .i64 e, .int .i64 f] 3) = w' := by
  subst hn
  have h := rIn_any [a, b, c, d, e, f] w.heap.size _ (in_cells w [a, b, c, d, e, f] 3) 6 rfl (by decide)
  rw [show [a, b, c, d, e, f].all Cm.ok = (Cm.ok a && Cm.ok b && Cm.ok c && Cm.ok d && Cm.ok e && Cm.ok f) by simp [Bool.and_assoc]] at h
  exact h

theorem range_new (w : World) (cs : Array Value) (t : TypeId) (o : Nat) (l : List Value) (h : ∀ j v, l[j]? = some v → cs[o + j]? = some v) : (w.alloc (.cells cs t)).rangeAt w.heap.size o l := fun j v hj => (World.cell?_alloc_at (w := w) _ _ _ _ rfl).trans (h j v hj)
theorem range_kept {w w' : World} {b o : Nat} {l : List Value} (h : w.rangeAt b o l) (hb : b < w.heap.size) (g : Below w.heap.size w w') : w'.rangeAt b o l := fun j v hj => (g.cell (p := ⟨b, o + j, none⟩) hb).trans (h j v hj)
theorem three_at {a b c : Value} {cs : Array Value} {o : Nat} (h0 : cs[o]? = some a) (h1 : cs[o + 1]? = some b) (h2 : cs[o + 2]? = some c) : ∀ j v, [a, b, c][j]? = some v → cs[o + j]? = some v := by
  intro j v hj
  rcases j with _ | _ | _ | j
  · simp only [List.getElem?_cons_zero] at hj; rw [← hj]; exact h0
  · simp only [List.getElem?_cons_succ, List.getElem?_cons_zero] at hj; rw [← hj]; exact h1
  · simp only [List.getElem?_cons_succ, List.getElem?_cons_zero] at hj; rw [← hj]; exact h2
  · simp at hj

theorem rVec_any (v : V3) (w : World) : Calls Try.prog 46 #[.agg #[.int .i64 v.x, .int .i64 v.y, .int .i64 v.z]] w (RetBelow (.bool (Cm.okV v)) w) := by
  obtain ⟨x, y, z⟩ := v
  have hr : Hid (Cm.okV ⟨x, y, z⟩ = (Cm.ok x && Cm.ok y && Cm.ok z)) := Lib.hid rfl
  go_enter Try.func46, Try.ntmps46
  go_wp2_with fail
  refine (rIn3 _ _ _ _ _ (by simp)).mono ?_
  rintro e w1 ⟨rfl, rfl⟩
  obtain ⟨r, hrr⟩ : ∃ r, (Cm.ok x && Cm.ok y && Cm.ok z) = r := ⟨_, rfl⟩
  rw [hrr] at hr ⊢
  clear hrr
  go_wp2_with fail
  go_ret
  exact ⟨by rw [hr.out]; rfl, ((Below.refl _ _).alloc (Nat.le_refl _) _).alloc (by simp) _⟩

set_option maxRecDepth 4000 in
theorem rOkGang_any (g : Gg) (w : World) : Calls Try.prog 28 #[.agg g.c] w (RetBelow (.bool (Cm.okG g)) w) := by
  obtain ⟨a, b, c, ⟨x, y, z⟩, d, e, f⟩ := g
  have hr : Hid (Cm.okG ⟨a, b, c, ⟨x, y, z⟩, d, e, f⟩ = (Cm.ok a && Cm.ok b && Cm.ok c && Cm.ok d && Cm.ok e && Cm.ok f && Cm.okV ⟨x, y, z⟩)) := Lib.hid rfl
  unfold Gg.c
  simp only
  have hv := fun w => rVec_any ⟨x, y, z⟩ w
  simp only at hv
  have HV := Lib.hid hv; clear hv
  go_enter Try.func28, Try.ntmps28
  go_wp2_with fail
  refine (rIn6 _ _ _ _ _ _ _ _ (by simp)).mono ?_
  rintro er w1 ⟨rfl, rfl⟩
  obtain ⟨r, hrr⟩ : ∃ r, (Cm.ok a && Cm.ok b && Cm.ok c && Cm.ok d && Cm.ok e && Cm.ok f) = r := ⟨_, rfl⟩
  rw [hrr] at hr ⊢
  clear hrr
  have hrg : ((w.alloc (.cells #[.int .i64 a, .int .i64 b, .int .i64 c, .int .i64 x, .int .i64 y, .int .i64 z, .int .i64 d, .int .i64 e, .int .i64 f] 29)).alloc (.cells #[.int .i64 a, .int .i64 b, .int .i64 c, .int .i64 d, .int .i64 e, .int .i64 f] 3)).rangeAt w.heap.size 3 [.int .i64 x, .int .i64 y, .int .i64 z] := by
    exact range_kept (range_new w _ _ 3 _ (three_at rfl rfl rfl)) (by simp) ((Below.refl _ _).alloc (Nat.le_refl _) _)
  have HR := Lib.hid hrg; clear hrg
  have gW : Below w.heap.size w ((w.alloc (.cells #[.int .i64 a, .int .i64 b, .int .i64 c, .int .i64 x, .int .i64 y, .int .i64 z, .int .i64 d, .int .i64 e, .int .i64 f] 29)).alloc (.cells #[.int .i64 a, .int .i64 b, .int .i64 c, .int .i64 d, .int .i64 e, .int .i64 f] 3)) := ((Below.refl _ _).alloc (Nat.le_refl _) _).alloc (by simp) _
  have GW := Lib.hid gW; clear gW
  cases r
  · go_wp2_with fail
    go_ret
    exact ⟨by rw [hr.out]; rfl, GW.out⟩
  · go_wp2_with (refine wpList_load_mid rfl 27 _ rfl w.heap.size 3 rfl _ _ HR.out Try.underlying27 rfl (by kernel_rfl) ?_)
    refine (HV.out _).mono ?_
    rintro er w1 ⟨rfl, b1⟩
    have B1 := Lib.hid (below_trans GW.out b1); clear b1
    obtain ⟨q, hq⟩ : ∃ q, Cm.okV ⟨x, y, z⟩ = q := ⟨_, rfl⟩
    rw [hq] at hr ⊢
    clear hq
    go_wp2_with fail
    go_ret
    exact ⟨by rw [hr.out]; rfl, B1.out⟩

end Go.Proofs.Ytpnfhcpapjomnaa
