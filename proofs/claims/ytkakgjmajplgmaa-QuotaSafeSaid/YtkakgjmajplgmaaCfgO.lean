/- A configuration among the arguments: opened. -/
import Derived.Test.YtkakgjmajplgmaaCfgC
import Derived.Test.YtkakgjmajplgmaaCmdU
namespace Go.Proofs.Ytkakgjmajplgmaa
open Go.RowKit Go.Joins Go.ChangeShapes Go.WideShapes Go.Deep
set_option linter.unusedVariables false

theorem open_cfg {H : Type} {enc : TypeId × Value → H} {w : World} {r : Reach} {b0 : Nat} {v : Value} {d : DataW H} {p : List MemPlace} (hv : Value.okWide Try.prog w r b0 25 v) (h : DataW.Trod enc Try.prog w 0 (fun _ => true) true 25 v d p) :
    ∃ (c : Cmd) (vn vh : Value), v = .agg (c.f vn vh) ∧ CmAt c vn vh w ∧ c.wide := by
  obtain ⟨⟨l⟩, rfl, hsz⟩ := okWide_struct Try.underlying25 hv
  rw [cells_config] at hsz
  obtain ⟨fuel, hf⟩ := h
  match l, hsz with
  | [c1, c2, c3, c4], _ =>
    have h1 : DataW.trod enc Try.prog w 0 (fun _ => true) true fuel 25 [c1, c2, c3, c4] = some (d, p) := by simpa [Value.cells] using hf
    obtain ⟨_, _, g0, n0⟩ := field_at Try.underlying25 h1 0 _ rfl 1 cells_nodes [c1] rfl
    obtain ⟨_, _, g1, n1⟩ := field_at Try.underlying25 h1 1 _ rfl 1 cells_hosts [c2] rfl
    obtain ⟨_, _, g2, _⟩ := field_at Try.underlying25 h1 2 _ rfl 1 cells_int [c3] rfl
    obtain ⟨_, _, g3, _⟩ := field_at Try.underlying25 h1 3 _ rfl 1 cells_int [c4] rfl
    obtain ⟨ha, rfl, wha⟩ := int_cell g2
    obtain ⟨ag, rfl, wag⟩ := int_cell g3
    obtain ⟨an, cn, nb, no, ns, rfl, sn, wns, ln⟩ := open_rows Nd.c Nd.wide 22 42 11 (by decide) ⟨0, 0, ⟨0, 0, 0⟩, ⟨0, 0, 0⟩, ⟨0, 0, 0⟩⟩ Try.underlying22 cells_node (by rw [show Try.prog.bytesOf 42 = 88 by kernel_rfl]; decide) node_index_at (fun n cs y hl h => node_cells hl h) g0
    obtain ⟨ah, ch, hb, ho, hs, rfl, sh, whs, lh⟩ := open_rows Hs.c Hs.wide 23 62 6 (by decide) ⟨0, 0, 0, ⟨0, 0, 0⟩⟩ Try.underlying23 cells_host (by rw [show Try.prog.bytesOf 62 = 48 by kernel_rfl]; decide) host_index_at (fun n cs y hl h => host_cells hl h) g1
    exact ⟨⟨0, ns, hs, ha, ag, Cm.zG, 0⟩, _, _, rfl, ⟨an, cn, nb, no, ah, ch, hb, ho, rfl, rfl, sn, sh⟩, ⟨in64_zero, wns, whs, wha, wag, gg_zero, in64_zero⟩⟩

end Go.Proofs.Ytkakgjmajplgmaa
