/- A command among the arguments: opened. -/
import Derived.Test.YtpnfhcpapjomnaaCmdL
import Derived.Test.YtpnfhcpapjomnaaCmdU
import Derived.Laws.IdiomArrays
import Derived.Lib.SmallJoins
import Derived.Deep.Slices
import Derived.Deep.Fields
import Derived.SizedLaws
import Derived.ChangeSame
import Derived.ChangeArms
namespace Go.Proofs.Ytpnfhcpapjomnaa
open Go.RowKit Go.Joins Go.ChangeShapes Go.WideShapes Go.Deep
set_option linter.unusedVariables false

section
variable {H : Type} {enc : TypeId × Value → H} {w : World}
/-- A command by value, opened: what it is, where its lists lie; how great its numbers are, how long its lists. -/
theorem open_cmd {r : Reach} {b0 : Nat} {v : Value} {d : DataW H} {p : List MemPlace} (hv : Value.okWide Try.prog w r b0 31 v) (h : DataW.Trod enc Try.prog w 0 (fun _ => true) true 31 v d p) :
    ∃ (c : Cmd) (vn vh : Value), v = .agg (c.c vn vh) ∧ CmAt c vn vh w ∧ c.wide ∧ (c.nodes.length = 0 ∨ ∃ m ∈ d.weights Try.prog 31, c.nodes.length ≤ m) ∧ (c.hosts.length = 0 ∨ ∃ m ∈ d.weights Try.prog 31, c.hosts.length ≤ m) := by
  obtain ⟨⟨l⟩, rfl, hsz⟩ := okWide_struct Try.underlying31 hv
  rw [cells_command] at hsz
  obtain ⟨fuel, hf⟩ := h
  match l, hsz with
  | [c0, c1, c2, c3, c4, c5, c6, c7, c8, c9, c10, c11, c12, c13, c14], _ =>
    have hf' : DataW.trod enc Try.prog w 0 (fun _ => true) true fuel 31 [c0, c1, c2, c3, c4, c5, c6, c7, c8, c9, c10, c11, c12, c13, c14] = some (d, p) := by simpa [Value.cells] using hf
    obtain ⟨_, _, h0, _⟩ := field_at Try.underlying31 hf' 0 _ rfl 1 cells_int [c0] rfl
    obtain ⟨_, y1, h1, m1⟩ := field_at Try.underlying31 hf' 1 _ rfl 4 cells_config [c1, c2, c3, c4] rfl
    obtain ⟨_, _, h2, _⟩ := field_at Try.underlying31 hf' 2 _ rfl 9 cells_gang [c5, c6, c7, c8, c9, c10, c11, c12, c13] rfl
    obtain ⟨_, _, h3, _⟩ := field_at Try.underlying31 hf' 3 _ rfl 1 cells_int [c14] rfl
    obtain ⟨_, _, g0, n0⟩ := field_at Try.underlying25 h1 0 _ rfl 1 cells_nodes [c1] rfl
    obtain ⟨_, _, g1, n1⟩ := field_at Try.underlying25 h1 1 _ rfl 1 cells_hosts [c2] rfl
    obtain ⟨_, _, g2, _⟩ := field_at Try.underlying25 h1 2 _ rfl 1 cells_int [c3] rfl
    obtain ⟨_, _, g3, _⟩ := field_at Try.underlying25 h1 3 _ rfl 1 cells_int [c4] rfl
    obtain ⟨k, rfl, wk⟩ := int_cell h0
    obtain ⟨g, eg, wg⟩ := gang_cells h2
    obtain ⟨nn, rfl, wn⟩ := int_cell h3
    obtain ⟨ha, rfl, wha⟩ := int_cell g2
    obtain ⟨ag, rfl, wag⟩ := int_cell g3
    obtain ⟨an, cn, nb, no, ns, rfl, sn, wns, ln⟩ := open_rows Nd.c Nd.wide 22 78 11 (by decide) ⟨0, 0, ⟨0, 0, 0⟩, ⟨0, 0, 0⟩, ⟨0, 0, 0⟩⟩ Try.underlying22 cells_node (by rw [show Try.prog.bytesOf 78 = 88 by kernel_rfl]; decide) node_index_at (fun n cs y hl h => node_cells hl h) g0
    obtain ⟨ah, ch, hb, ho, hs, rfl, sh, whs, lh⟩ := open_rows Hs.c Hs.wide 23 81 6 (by decide) ⟨0, 0, 0, ⟨0, 0, 0⟩⟩ Try.underlying23 cells_host (by rw [show Try.prog.bytesOf 81 = 48 by kernel_rfl]; decide) host_index_at (fun n cs y hl h => host_cells hl h) g1
    obtain ⟨g1', g2', g3', ⟨gx, gy, gz⟩, g4', g5', g6'⟩ := g
    simp only [Gg.c, List.cons.injEq, and_true] at eg
    obtain ⟨rfl, rfl, rfl, rfl, rfl, rfl, rfl, rfl, rfl⟩ := eg
    exact ⟨⟨k, ns, hs, ha, ag, ⟨g1', g2', g3', ⟨gx, gy, gz⟩, g4', g5', g6'⟩, nn⟩, _, _, rfl, ⟨an, cn, nb, no, ah, ch, hb, ho, rfl, rfl, sn, sh⟩, ⟨wk, wns, whs, wha, wag, wg, wn⟩,
      ln.imp id (fun ⟨m, hm, h⟩ => ⟨m, m1 m (n0 m hm), h⟩), lh.imp id (fun ⟨m, hm, h⟩ => ⟨m, m1 m (n1 m hm), h⟩)⟩

/-- How long the lists are, out of what the row asks of sizes. -/
theorem sized_of {H : Type} {P : Program} {ts : List TypeId} {ds : List (DataW H)} (h : (DataW.weightsEach P ts ds).all (· ≤ reachBytes) = true) {j : Nat} {t : TypeId} {d : DataW H} (ht : ts[j]? = some t) (hd : ds[j]? = some d) {n : Nat} (hn : n = 0 ∨ ∃ m ∈ d.weights P t, n ≤ m) : n ≤ 140737488351232 := by
  rcases hn with rfl | ⟨m, hm, hle⟩
  · omega
  · have := List.all_eq_true.1 h _ (DataW.weights_mem_each ht hd m hm)
    have h2 : m ≤ 140737488351232 := of_decide_eq_true this
    omega

end
end Go.Proofs.Ytpnfhcpapjomnaa
