/- The landed configuration: all tenants. -/
import Derived.Test.YtmpmnehapildeaaKcF
import Derived.Test.YtmpmnehapildeaaIntA
namespace Go.Proofs.Ytmpmnehapildeaa
open Go.RowKit
set_option linter.unusedVariables false

namespace Cf
/-- The tenants among the first j nodes. -/
def leavesTo (ns : List Nd) (j : Nat) : List Int := ((List.range j).map fun i : Nat => (i : Int)).filter (leaf ns)
theorem leavesTo_yes {ns : List Nd} {j : Nat} (h : leaf ns (j : Int) = true) : leavesTo ns (j + 1) = leavesTo ns j ++ [(j : Int)] := by
  unfold leavesTo
  rw [List.range_succ, List.map_append, List.filter_append]
  simp [h]
theorem leavesTo_no {ns : List Nd} {j : Nat} (h : leaf ns (j : Int) = false) : leavesTo ns (j + 1) = leavesTo ns j := by
  unfold leavesTo
  rw [List.range_succ, List.map_append, List.filter_append]
  simp [h]
theorem leavesTo_len (ns : List Nd) (j : Nat) : (leavesTo ns j).length ≤ j := by
  unfold leavesTo
  refine Nat.le_trans (List.length_filter_le _ _) ?_
  simp
end Cf

/-- The tenants so far. -/
structure LvSo (ns : List Nd) (w : World) (B base : Nat) (j : Int) (v : Value) (wr : World) : Prop where
  row : wr.ownsRow base 3 1 v (Cf.leavesTo ns j.toNat).length (cellsOf iC (Cf.leavesTo ns j.toNat))
  bools : Row wr B (bcells (Cf.pars ns)) 4
  low : Below w.heap.size w wr
  base_le : base ≤ wr.heap.size
  above : w.heap.size ≤ base
  apart : B < base

set_option maxHeartbeats 1000000 in
set_option maxRecDepth 4000 in
theorem kLeaves (c : Cmd) (vn vh : Value) (w : World) (h300 : c.nodes.length ≤ 300) (h : CmAt c vn vh w) : Calls Try.prog 13 #[.agg (c.f vn vh)] w fun e w' => ∃ (ao : Option Addr) (cap bb oo : Nat),
    e = .returned (.slice ao (Cf.leaves c.nodes).length cap) ∧ Sl intC 37 1 w' ao cap bb oo (Cf.leaves c.nodes) ∧ Below w.heap.size w w' := by
  obtain ⟨an, cn, nb, no, ah, ch, hb, ho, rfl, rfl, s1, s2⟩ := h
  have hpa := fun w2 (g : Below w.heap.size w w2) => kParents c.nodes an cn nb no w2 (s1.kept g) h300
  obtain ⟨kind, ns, hosts, half, age, g, k⟩ := c
  simp only [Cmd.f] at *
  obtain ⟨R, hR⟩ : ∃ r, Cf.leaves ns = r := ⟨_, rfl⟩
  have hend : ∀ j : Int, j = ns.length → Cf.leavesTo ns j.toNat = R := fun j h => by rw [h, ← hR]; rfl
  rw [hR]
  obtain ⟨nl, hnl⟩ : ∃ n, ns.length = n := ⟨_, rfl⟩
  obtain ⟨hl, hhl⟩ : ∃ n, hosts.length = n := ⟨_, rfl⟩
  rw [hnl] at hpa h300 hend ⊢
  rw [hhl]
  obtain ⟨zn, hzn⟩ : ∃ z : Int, (nl : Int) = z := ⟨_, rfl⟩
  have PA := Lib.hid hpa; have HE := Lib.hid hend; have HL := Lib.hid hnl; have HZ := Lib.hid hzn
  clear hpa hend hR s1 s2 hnl hhl
  have G0 := Lib.hid ((Below.refl w.heap.size w).alloc (Nat.le_refl _) (.cells #[.slice an nl cn, .slice ah hl ch, .int .i64 half, .int .i64 age] 25))
  have Z0 := Lib.hid (World.size_alloc w (.cells #[.slice an nl cn, .slice ah hl ch, .int .i64 half, .int .i64 age] 25))
  go_enter Try.func13, Try.ntmps13
  go_wp2_with fail
  refine (PA.out _ G0.out).mono ?_
  rintro er w1 ⟨rfl, r1, b1⟩
  rw [Z0.out] at r1 ⊢
  have hbi := fun (i : Nat) (h : i < nl) w0 => bool_index (w.heap.size + 1) nl nl i h w0
  have S0 := Lib.hid (show LvSo ns w (w.heap.size + 1) w1.heap.size 0 (.slice none 0 0) w1 from ⟨World.ownsRow_nil _ _ _ _, r1, below_trans G0.out b1, Nat.le_refl _, (below_trans G0.out b1).size, r1.lt⟩)
  have HBI := Lib.hid hbi
  clear r1 b1 hbi
  go_wp2_with fail
  go_loopw [3, 10] (fun vv i wr => ∃ (j : Int), i = .int .i64 j ∧ 0 ≤ j ∧ j ≤ zn ∧ Hid (LvSo ns w (w.heap.size + 1) w1.heap.size j vv wr)) (fun _ i _ => (zn - intOf i).toNat)
  case atStart => exact ⟨0, rfl, by omega, by omega, S0.out⟩
  case round =>
    obtain ⟨j, rfl, hj0, hjz, hd⟩ := hrel
    obtain ⟨ao, ln, cp, rfl⟩ := own_form hd.out.row
    by_cases hlt : j < zn
    · have hib := HBI.out j.toNat (by omega)
      have hcb : wr.cell? ⟨w.heap.size + 1, j.toNat, none⟩ = some (.bool (!Cf.leaf ns j)) := by
        rw [hd.out.bools.at_, bcells_at, Cf.pars_at ns j.toNat (by have := HL.out; have := HZ.out; omega), show ((j.toNat : Nat) : Int) = j by omega]
        rfl
      rw [show ((j.toNat : Nat) : Int) = j by omega] at hib
      have hyes := @Cf.leavesTo_yes ns j.toNat
      have hno := @Cf.leavesTo_no ns j.toNat
      rw [show ((j.toNat : Nat) : Int) = j by omega] at hyes hno
      obtain ⟨L, hL⟩ : ∃ b, Cf.leaf ns j = b := ⟨_, rfl⟩
      rw [hL] at hcb hyes hno
      have hlen := Cf.leavesTo_len ns j.toNat
      cases L
      · have e := Lib.hid (hno rfl)
        clear hyes hno hL hlen
        go_wp2_with fail
        go_roundw
        case rel => exact ⟨j + 1, rfl, by omega, by omega, ⟨by rw [show (j + 1).toNat = j.toNat + 1 by omega, e.out]; exact hd.out.row, hd.out.bools, hd.out.low, hd.out.base_le, hd.out.above, hd.out.apart⟩⟩
        case measure => simp [intOf]; omega
      · have he := hyes rfl
        obtain ⟨l, hl⟩ : ∃ l, Cf.leavesTo ns j.toNat = l := ⟨_, rfl⟩
        have own := hd.out.row
        rw [hl] at own he hlen
        obtain ⟨v', w3, hrun, own3, gr3⟩ := int_append (wr.alloc (.cells #[.int .i64 j] 3)) w1.heap.size (.slice ao ln cp) l j (by have := HZ.out; omega) wr.heap.size (World.ownsRow.alloc own _) (Row.new wr _ _) (by rw [World.size_alloc]; have := hd.out.base_le; omega)
        obtain ⟨ao', ln', cp', rfl⟩ := own_form own3
        have boo3 := Row.grown ((hd.out.bools).under ((Below.refl _ _).alloc (Nat.le_refl wr.heap.size) (.cells #[.int .i64 j] 3))) gr3 (fun e => by have := (own.lt _ e).1; have := hd.out.apart; omega)
        have low3 : Below w.heap.size w w3 := Below.grown (hd.out.low.alloc hd.out.low.size _) gr3 (by rw [World.size_alloc]; have := hd.out.low.size; omega) (fun k hk => by have := (own.lt k hk).1; have := hd.out.above; omega)
        have bas3 : w1.heap.size ≤ w3.heap.size := by have := gr3.size; rw [World.size_alloc] at this; have := hd.out.base_le; omega
        rw [← he] at own3
        have SO := Lib.hid (show LvSo ns w (w.heap.size + 1) w1.heap.size (j + 1) (.slice ao' ln' cp') w3 from ⟨by rw [show (j + 1).toNat = j.toNat + 1 by omega]; exact own3, boo3, low3, bas3, hd.out.above, hd.out.apart⟩)
        have HRUN := Lib.hid hrun
        clear hyes hno hL hlen hrun own own3 gr3 boo3 low3 bas3 he hl hd
        go_wp2_with (first | (at_builtin; refine wpList_append_by rfl _ _ _ _ rfl _ _ _ _ rfl rfl HRUN.out ?_) | fail)
        go_roundw
        case rel => exact ⟨j + 1, rfl, by omega, by omega, SO.out⟩
        case measure => simp [intOf]; omega
    · have own := hd.out.row
      rw [HE.out j (by have := HZ.out; omega)] at own
      obtain ⟨ao2, cap, bb, e1, s1⟩ := own_slice iC 37 (k := 1) (fun x => rfl) own (fun b len cap i hi w0 => int_index b len cap i hi w0)
      injection e1 with h1 h2 h3
      subst h1 h2 h3
      have S := Lib.hid s1; have L := Lib.hid hd.out.low
      clear hd own s1
      go_wp2_with fail
      go_ret
      exact ⟨_, _, rfl, ⟨_, _, S.out⟩, L.out⟩

end Go.Proofs.Ytmpmnehapildeaa
