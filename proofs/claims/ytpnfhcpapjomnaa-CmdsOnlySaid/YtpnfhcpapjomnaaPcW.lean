/- strings.Builder's WriteString: what stays beside the builder's own two blocks, told by the blocks' types. -/
import Derived.Test.YtpnfhcpapjomnaaBld
import Derived.Test.YtpnfhcpapjomnaaCmdG
import Derived.Test.YtpnfhcpapjomnaaPnB
namespace Go.Proofs.Ytpnfhcpapjomnaa
open Go.RowKit
set_option linter.unusedVariables false

/-- Blocks of other types than the builder's stand as they did. -/
def Typed (w w' : World) : Prop := ∀ (g : Nat) (cs : Array Value) (t : TypeId), t ≠ 5 → t ≠ 72 → Row w g cs t → Row w' g cs t
theorem Typed.trans {u v w : World} (h : Typed u v) (g : Typed v w) : Typed u w := fun b cs t h1 h2 hr => g b cs t h1 h2 (h b cs t h1 h2 hr)
theorem Typed.of_below {w w' : World} (h : Below w.heap.size w w') : Typed w w' := fun b cs t _ _ hr => hr.under h

theorem typed_set {w : World} {b : Nat} {p v u : Value} {x : Nat} (h : w.heap[b]? = some (.cells #[p, v] 72 (0, 0))) : Typed w (w.setCell ⟨b, x, none⟩ u) := fun g cs t _ h2 hr => by
  by_cases e : g = b
  · subst e
    unfold Row at hr
    rw [h] at hr
    injection hr with hr
    injection hr with _ ht _
    exact absurd ht.symm h2
  · exact hr.keep (b := b) ((But.refl b w).setCell (p := ⟨b, x, none⟩) (.inr rfl) u) e
theorem typed_grown {w w' : World} {base n : Nat} {v : Value} {xs : List Value} (h : w.ownsRow base 5 1 v n xs) (g : w.grownBy w' v.ownBlock) : Typed w w' := fun k cs t h1 _ hr => by
  refine (g.block k hr.lt ?_).trans hr
  rcases h.2 with ⟨rfl, _⟩ | ⟨q, cap, cur, rfl, _, hq, _⟩
  · simp [Value.ownBlock]
  · simp only [Value.ownBlock, ne_eq, Option.some.injEq]
    rintro rfl
    unfold Row at hr
    rw [hq] at hr
    injection hr with hr
    injection hr with _ ht _
    exact h1 ht.symm

set_option maxHeartbeats 1000000 in
theorem WriteString_t {B b : Nat} {s : ByteArray} {w : World} (h : Bld B b s w) (x : ByteArray) (hl : s.size + x.size ≤ 140737488355328) (hB : B ≤ w.heap.size) :
    Calls Try.prog 40 #[.pointer (some ⟨b, 0, none⟩), .string x] w fun e w' => e = .returned (.tuple #[.int .i64 x.size, .nilIface]) ∧ Bld B b (s ++ x) w' ∧ Below B w w' ∧ Typed w w' := by
  obtain ⟨i0, hi, hz0, hz1, hz2⟩ := info_parts bld_byte
  have hcc : Calls Try.prog 55 #[.pointer (some ⟨b, 0, none⟩)] w fun e w' => e = .returned (.tuple #[]) ∧ Lib.BuilderAt 72 5 B b (.pointer (some ⟨b, 0, none⟩)) (Lib.strCells s) w' ∧ Below B w w' ∧ Typed w w' := by
    rcases h with h | h
    · refine (copyCheck_fresh h.cell0 h.shape h.frozen0).mono ?_
      rintro e w' ⟨rfl, rfl⟩
      obtain ⟨v, hb, _⟩ := h.2
      exact ⟨rfl, h.used _, (Below.refl B w).setCell (p := ⟨b, 0, none⟩) h.1 _, typed_set hb⟩
    · refine (copyCheck_used h.cell0).mono ?_
      rintro e w' ⟨rfl, rfl⟩
      exact ⟨rfl, h, Below.refl B _, fun _ _ _ _ _ h => h⟩
  have hcc := Lib.hid hcc
  have hls := Lib.strCells_length s
  clear h
  go_enter Try.func40, Try.ntmps40
  go_wp2_with fail
  refine hcc.out.mono ?_
  rintro e w1 ⟨rfl, ⟨hBb, v, hbk, hown, hne⟩, g1, t1⟩
  have c1 : w1.cell? ⟨b, 1, none⟩ = some v := by rw [Lib.cell_of_heap hbk]; rfl
  have hz := g1.size
  have hlt : b < w1.heap.size := World.block_lt_of_cell? w1 _ c1
  rw [hls] at hown
  obtain ⟨v', w2, hrun, hown', hgrow, -⟩ := Lib.run_append_own_string (P := Try.prog) w1 B 70 9 70 5 i0 Try.underlying70 Try.underlying9 hi hz0 hz1 hz2 v s.size (Lib.strCells s) hown x (by unfold maxLen; omega) hl (by omega)
  have hb2 : w2.heap[b]? = some (.cells #[.pointer (some ⟨b, 0, none⟩), v] 72 (0, 0)) := by
    rw [hgrow.block b hlt (fun e => hne e.symm)]
    exact hbk
  have d1 : w2.cell? ⟨b, 1, none⟩ = some v := by rw [Lib.cell_of_heap hb2]; rfl
  have f1 : w2.frozen? ⟨b, 1, none⟩ = false := Lib.frozen_of_heap hb2 1
  obtain ⟨ao, n', cap, rfl⟩ : ∃ ao n' cap, v' = .slice ao n' cap := by
    rcases hown'.2 with ⟨hv, _⟩ | ⟨g, cap, cur, hv, _⟩
    · exact ⟨_, _, _, hv⟩
    · exact ⟨_, _, _, hv⟩
  have E : Hid (Bld B b (s ++ x) (w2.setCell ⟨b, 1, none⟩ (.slice ao n' cap)) ∧ Below B w (w2.setCell ⟨b, 1, none⟩ (.slice ao n' cap)) ∧ Typed w (w2.setCell ⟨b, 1, none⟩ (.slice ao n' cap))) := Lib.hid (by
    refine ⟨.inr ?_, (g1.grown hgrow (by omega) (fun k hk => (hown.lt k hk).1)).setCell (p := ⟨b, 1, none⟩) hBb _, (t1.trans (typed_grown hown hgrow)).trans (typed_set hb2)⟩
    rw [strCells_app]
    exact Lib.BuilderAt.put hBb hb2 (bs' := Lib.strCells s ++ Lib.strCells x) (by simpa [Lib.strCells_length] using hown') (by decide))
  clear hown hown' hgrow hbk hb2 g1 t1 hne hcc
  go_wp2_with (at_builtin; refine wpList_append_by rfl _ _ _ _ rfl _ _ _ _ rfl rfl hrun ?_)
  go_ret2
  exact ⟨rfl, E.out⟩

/-- What is put. -/
theorem cPn_any (x : Int) (h0 : -9223372036854775808 ≤ x) (h : x < 9223372036854775808) (w : World) : Calls Try.prog 18 #[.int .i64 x] w (RetBelow (.string (Cm.pn x)) w) := Put_any x.toNat x (Nat.le_refl _) h0 h w
theorem cPv_any (v : V3) (h : Cm.okV v = true) (w : World) : Calls Try.prog 41 #[.agg #[.int .i64 v.x, .int .i64 v.y, .int .i64 v.z]] w (RetBelow (.string (Cm.pv v)) w) := by
  simp only [Cm.okV, Bool.and_eq_true, Cm.ok_iff] at h
  exact PutVec_any (tri v.x v.y v.z) (fun i hi => by
    have e : i = 0 ∨ i = 1 ∨ i = 2 := by omega
    rcases e with rfl | rfl | rfl
    · show _ ≤ v.x ∧ v.x < _; omega
    · show _ ≤ v.y ∧ v.y < _; omega
    · show _ ≤ v.z ∧ v.z < _; omega) w

end Go.Proofs.Ytpnfhcpapjomnaa
