/- CfgC CfgO QtB QtC QtD QtE QtI: joined. -/
import Derived.Test.YtkaikekibmgmmaaCfgB
import Derived.Laws.OwnMore
import Derived.Test.YtkaikekibmgmmaaGc
import Derived.Test.YtkaikekibmgmmaaGd
import Derived.Test.YtkaikekibmgmmaaCfgA
import Derived.Test.YtkaikekibmgmmaaGa
namespace Go.Proofs.Ytkaikekibmgmmaa
open Go.RowKit
set_option linter.unusedVariables false

/-- A configuration's cells (of a command's fields of that name). -/
def Cmd.f (c : Cmd) (vn vh : Value) : Array Value := #[vn, vh, .int .i64 c.half, .int .i64 c.age]
/-- A slice of numbers. -/
def intC (k : Int) : Array Value := #[.int .i64 k]
def Cmd.few9 (c : Cmd) : Prop := c.nodes.length ≤ 300 ∧ c.hosts.length ≤ 2000

theorem rCheck9At {c : Cmd} {vn vh : Value} {w : World} (h : CmAt c vn vh w) : Calls Try.prog 8 #[.agg (c.f vn vh)] w (RetBelow (.int .i64 (Cf.check c)) w) := by
  obtain ⟨an, cn, nb, no, ah, ch, hb, ho, rfl, rfl, h1, h2⟩ := h
  exact rCheck9_any c an ah cn ch nb no hb ho w h1 h2

namespace Cf
/-- The least configuration. -/
def one : Cmd := ⟨0, [⟨-1, 1, ⟨0, 0, 0⟩, ⟨0, 0, 0⟩, ⟨0, 0, 0⟩⟩], [⟨0, 0, 0, ⟨0, 0, 0⟩⟩], 1, 0, Cm.zG, 0⟩
def none : Cmd := ⟨0, [], [], 0, 0, Cm.zG, 0⟩
theorem check_one : check one = 0 := by decide
theorem check_none : check none = 2 := by decide
theorem leaf_one : leaf one.nodes 0 = true := by decide
theorem leaf_two : leaf one.nodes 1 = false := by decide
theorem leaves_one : leaves one.nodes = [0] := by decide
theorem same_one : Cm.sameC one one = true := by decide
theorem one_wide : one.wide := by
  have i1 : In64 (-1) := by unfold In64; omega
  have i2 : In64 1 := by unfold In64; omega
  refine ⟨in64_zero, fun n h => ?_, fun n h => ?_, i2, in64_zero, gg_zero, in64_zero⟩
  · simp only [one, List.mem_singleton] at h
    subst h
    exact ⟨i1, i2, ⟨in64_zero, in64_zero, in64_zero⟩, ⟨in64_zero, in64_zero, in64_zero⟩, ⟨in64_zero, in64_zero, in64_zero⟩⟩
  · simp only [one, List.mem_singleton] at h
    subst h
    exact ⟨in64_zero, in64_zero, in64_zero, ⟨in64_zero, in64_zero, in64_zero⟩⟩
theorem none_wide : none.wide := ⟨in64_zero, fun n h => by simp [none] at h, fun n h => by simp [none] at h, in64_zero, in64_zero, gg_zero, in64_zero⟩
end Cf

end Go.Proofs.Ytkaikekibmgmmaa
namespace Go.Proofs.Ytkaikekibmgmmaa
open Go.RowKit Go.Joins Go.ChangeShapes Go.WideShapes Go.Deep
set_option linter.unusedVariables false

theorem open_cfg {H : Type} {enc : TypeId × Value → H} {w : World} {r : Reach} {b0 : Nat} {v : Value} {d : DataW H} {p : List MemPlace} (hv : Value.okWide Try.prog w r b0 25 v) (h : DataW.Trod enc Try.prog w 0 (fun _ => true) true 25 v d p) :
    ∃ (c : Cmd) (vn vh : Value), v = .agg (c.f vn vh) ∧ CmAt c vn vh w ∧ c.wide := by
  obtain ⟨⟨l⟩, rfl, hsz⟩ := okWide_struct Try.underlying25 hv
  rw [cells_config] at hsz
  obtain ⟨fuel, hf⟩ := h
  match l, hsz with
  | [c1, c2, c3, c4], _ =>
    have h1 : DataW.trod enc Try.prog w 0 (fun _ => true) true fuel 25 [c1, c2, c3, c4] = some (d, p) := by simpa [Value.cells] using hf
    obtain ⟨_, _, g0, n0⟩ := field_at Try.underlying25 h1 0 _ rfl 1 cells_nodes [c1] rfl
    obtain ⟨_, _, g1, n1⟩ := field_at Try.underlying25 h1 1 _ rfl 1 cells_hosts [c2] rfl
    obtain ⟨_, _, g2, _⟩ := field_at Try.underlying25 h1 2 _ rfl 1 cells_int [c3] rfl
    obtain ⟨_, _, g3, _⟩ := field_at Try.underlying25 h1 3 _ rfl 1 cells_int [c4] rfl
    obtain ⟨ha, rfl, wha⟩ := int_cell g2
    obtain ⟨ag, rfl, wag⟩ := int_cell g3
    obtain ⟨an, cn, nb, no, ns, rfl, sn, wns, ln⟩ := open_rows Nd.c Nd.wide 22 60 11 (by decide) ⟨0, 0, ⟨0, 0, 0⟩, ⟨0, 0, 0⟩, ⟨0, 0, 0⟩⟩ Try.underlying22 cells_node (by rw [show Try.prog.bytesOf 60 = 88 by kernel_rfl]; decide) node_index_at (fun n cs y hl h => node_cells hl h) g0
    obtain ⟨ah, ch, hb, ho, hs, rfl, sh, whs, lh⟩ := open_rows Hs.c Hs.wide 23 58 6 (by decide) ⟨0, 0, 0, ⟨0, 0, 0⟩⟩ Try.underlying23 cells_host (by rw [show Try.prog.bytesOf 58 = 48 by kernel_rfl]; decide) host_index_at (fun n cs y hl h => host_cells hl h) g1
    exact ⟨⟨0, ns, hs, ha, ag, Cm.zG, 0⟩, _, _, rfl, ⟨an, cn, nb, no, ah, ch, hb, ho, rfl, rfl, sn, sh⟩, ⟨in64_zero, wns, whs, wha, wag, gg_zero, in64_zero⟩⟩

end Go.Proofs.Ytkaikekibmgmmaa
namespace Go.Proofs.Ytkaikekibmgmmaa
open Go.RowKit
set_option linter.unusedVariables false

/-- A path, so far. -/
structure PaSo (ns : List Nd) (w : World) (C4 : Array Value) (P : List Int) (m : Int) (l : List Int) (v : Value) (f : Nat) (wr : World) : Prop where
  rest : Qt.pathTo ns f m l = P
  fuel : (m + 1).toNat ≤ f
  few : l = [] ∨ l.length + (m + 1).toNat ≤ 12
  row : wr.ownsRow (w.heap.size + 1) 3 1 v l.length (cellsOf iC l)
  box : Row wr w.heap.size C4 25
  low : Below w.heap.size w wr
theorem path_out {ns : List Nd} {m : Int} {l : List Int} {f : Nat} (h : ¬ (0 ≤ m ∧ m < ns.length)) : Qt.pathTo ns f m l = l := by
  cases f with
  | zero => rfl
  | succ f => rw [Qt.pathTo, if_neg h]

set_option maxHeartbeats 1000000 in
set_option maxRecDepth 4000 in
theorem rPath_any (ns : List Nd) (an ah : Option Addr) (cn nb no hl ch : Nat) (ha ag n : Int) (w : World) (hN : Sl Nd.c 22 11 w an cn nb no ns) (h12 : ns.length ≤ 12) :
    Calls Try.prog 34 #[.agg #[.slice an ns.length cn, .slice ah hl ch, .int .i64 ha, .int .i64 ag], .int .i64 n] w fun e w' => ∃ v, e = .returned v ∧ w'.ownsRow (w.heap.size + 1) 3 1 v (Qt.path ns n).length (cellsOf iC (Qt.path ns n)) ∧ Below w.heap.size w w' := by
  obtain ⟨P, hP⟩ : ∃ p, Qt.path ns n = p := ⟨_, rfl⟩
  rw [hP]
  have hNi := hN.idx
  have hout := fun m l f h => @path_out ns m l f h
  have hin : ∀ (m : Int) (l : List Int) (f : Nat) x, ns[m.toNat]? = some x → 0 ≤ m → m < ns.length → Qt.pathTo ns (f + 1) m l = if m ≤ x.par then m :: l else Qt.pathTo ns f x.par (m :: l) := fun m l f x hx h0 h1 => by
    have e : Qt.nd ns m = x := by
      have := Qt.node_in (ns := ns) ⟨h0, h1⟩
      rw [this] at hx
      injection hx
    rw [Qt.pathTo, if_pos ⟨h0, h1⟩, e]
  have so0 : PaSo ns w #[.slice an ns.length cn, .slice ah hl ch, .int .i64 ha, .int .i64 ag] P n [] (.slice none 0 0) (n + 1).toNat (w.alloc (.cells #[.slice an ns.length cn, .slice ah hl ch, .int .i64 ha, .int .i64 ag] 25)) :=
    ⟨hP, Nat.le_refl _, .inl rfl, World.ownsRow_nil _ _ _ _, Row.new _ _ _, (Below.refl _ _).alloc (Nat.le_refl _) _⟩
  obtain ⟨nl, hnl⟩ : ∃ n, ns.length = n := ⟨_, rfl⟩
  rw [hnl] at hNi hout hin so0 h12 ⊢
  obtain ⟨zn, hzn⟩ : ∃ z : Int, (nl : Int) = z := ⟨_, rfl⟩
  rw [hzn] at hout hin
  have z12 : zn ≤ 12 := by omega
  have HNI := Lib.hid hNi; have HN := Lib.hid hN; have HL := Lib.hid hnl; have HO := Lib.hid hout; have HI := Lib.hid hin; have S0 := Lib.hid so0; have HZ := Lib.hid hzn
  clear hNi hN hnl hout hin so0 hP h12
  go_enter Try.func34, Try.ntmps34
  go_wp2_with fail
  go_loopw [1, 5] (fun i vv wr => ∃ (m : Int) (l : List Int) (f : Nat), i = .int .i64 m ∧ Hid (PaSo ns w #[.slice an nl cn, .slice ah hl ch, .int .i64 ha, .int .i64 ag] P m l vv f wr)) (fun i _ _ => (intOf i + 1).toNat)
  case atStart => exact ⟨n, [], _, rfl, S0.out⟩
  case round =>
    obtain ⟨m, l, f, rfl, hd⟩ := hrel
    obtain ⟨ao, ln, cp, rfl⟩ := own_form hd.out.row
    have k0 : wr.cell? ⟨w.heap.size, 0, none⟩ = some (.slice an nl cn) := hd.out.box.at_ 0
    by_cases m0 : 0 ≤ m
    · by_cases m1 : m < zn
      · obtain ⟨x, hx⟩ : ∃ x, ns[m.toNat]? = some x := ⟨_, List.getElem?_eq_getElem (by have := HL.out; have := HZ.out; omega)⟩
        have hi := HNI.out m.toNat (by have := HZ.out; omega)
        rw [show ((m.toNat : Nat) : Int) = m by omega] at hi
        have hf := hd.out.fuel
        obtain ⟨f', rfl⟩ : ∃ f', f = f' + 1 := ⟨f - 1, by omega⟩
        have hst := HI.out m l f' x hx m0 m1
        rw [hd.out.rest] at hst
        have hlen : l.length ≤ 12 := by
          rcases hd.out.few with h | h
          · rw [h]; simp
          · omega
        -- the number ahead of the row
        have b1 : w.heap.size + 1 ≤ wr.heap.size := by have := hd.out.box.lt; omega
        obtain ⟨v', w3, hrun, own3, gr3⟩ := int_prepend (wr.alloc (.cells #[.int .i64 m] 3)) (w.heap.size + 1) (.slice ao ln cp) l m (by omega) wr.heap.size b1 (World.ownsRow.alloc hd.out.row _) (Row.new wr _ _) (by rw [World.size_alloc]; omega)
        obtain ⟨ao', ln', cp', rfl⟩ := own_form own3
        have box3 := Row.grown ((hd.out.box).under ((Below.refl _ _).alloc (Nat.le_refl wr.heap.size) (.cells #[.int .i64 m] 3))) gr3 (by simp; omega)
        have low3 : Below w.heap.size w w3 := Below.grown (hd.out.low.alloc hd.out.low.size _) gr3 (by rw [World.size_alloc]; omega) (fun k hk => by simp at hk; omega)
        have k3 : w3.cell? ⟨w.heap.size, 0, none⟩ = some (.slice an nl cn) := box3.at_ 0
        have hr : w3.cell? ⟨nb, no + m.toNat * 11, none⟩ = some (.int .i64 x.par) := (HN.out.from (Nat.le_refl _) low3).at_ m.toNat x hx 0 _ rfl
        obtain ⟨oi, hoi⟩ : ∃ n, no + m.toNat * 11 = n := ⟨_, rfl⟩
        rw [hoi] at hi hr
        obtain ⟨p, hp⟩ : ∃ p, x.par = p := ⟨_, rfl⟩
        rw [hp] at hr hst
        have HST := Lib.hid hst; have HRUN := Lib.hid hrun; have OWN3 := Lib.hid own3; have BOX3 := Lib.hid box3; have LOW3 := Lib.hid low3; have HLEN := Lib.hid hlen; have FEW := Lib.hid hd.out.few
        clear hst hrun own3 gr3 box3 low3 hx hoi hp hlen hd b1
        by_cases hpm : m ≤ p
        · have he := HST.out
          rw [if_pos hpm] at he
          have HE := Lib.hid he
          clear he HST
          go_wp2_with (first | (at_builtin; refine wpList_append_by rfl _ _ _ _ rfl _ _ _ _ rfl rfl HRUN.out ?_) | fail)
          go_ret
          exact ⟨_, rfl, by rw [HE.out]; exact OWN3.out, LOW3.out⟩
        · have he := HST.out
          rw [if_neg hpm] at he
          have HE := Lib.hid he
          clear he HST
          go_wp2_with (first | (at_builtin; refine wpList_append_by rfl _ _ _ _ rfl _ _ _ _ rfl rfl HRUN.out ?_) | fail)
          go_roundw
          case rel =>
            exact ⟨p, m :: l, f', rfl, HE.out.symm, by omega, .inr (by
              rw [List.length_cons]
              rcases FEW.out with h | h
              · rw [h]; simp only [List.length_nil]; omega
              · omega), OWN3.out, BOX3.out, LOW3.out⟩
          case measure => simp [intOf]; omega
      · have he := HO.out m l f (by omega)
        rw [hd.out.rest] at he
        have HE := Lib.hid he; have OWN3 := Lib.hid hd.out.row; have LOW3 := Lib.hid hd.out.low
        clear hd he
        go_wp2_with fail
        go_ret
        exact ⟨_, rfl, by rw [HE.out]; exact OWN3.out, LOW3.out⟩
    · have he := HO.out m l f (by omega)
      rw [hd.out.rest] at he
      have HE := Lib.hid he; have OWN3 := Lib.hid hd.out.row; have LOW3 := Lib.hid hd.out.low
      clear hd he
      go_wp2_with fail
      go_ret
      exact ⟨_, rfl, by rw [HE.out]; exact OWN3.out, LOW3.out⟩

end Go.Proofs.Ytkaikekibmgmmaa
namespace Go.Proofs.Ytkaikekibmgmmaa
open Go.RowKit
set_option linter.unusedVariables false

set_option maxHeartbeats 1000000 in
set_option maxRecDepth 4000 in
theorem rOn_any (ns : List Nd) (an ah : Option Addr) (cn nb no hl ch : Nat) (ha ag n t : Int) (w : World) (hN : Sl Nd.c 22 11 w an cn nb no ns) (h12 : ns.length ≤ 12) :
    Calls Try.prog 54 #[.agg #[.slice an ns.length cn, .slice ah hl ch, .int .i64 ha, .int .i64 ag], .int .i64 n, .int .i64 t] w (RetBelow (.bool (Qt.on ns n t)) w) := by
  have hp := fun w2 (g : Below w.heap.size w w2) => rPath_any ns an ah cn nb no hl ch ha ag t w2 (hN.kept g) h12
  have hon : Qt.on ns n t = (Qt.path ns t).any fun x => decide (x = n) := rfl
  obtain ⟨P, hP⟩ : ∃ p, Qt.path ns t = p := ⟨_, rfl⟩
  rw [hP] at hon hp
  obtain ⟨F, hF⟩ : ∃ f, Qt.on ns n t = f := ⟨_, rfl⟩
  rw [hF] at hon ⊢
  have hyes : n ∈ P → F = true := fun h => by rw [hon, List.any_eq_true]; exact ⟨n, h, by simp⟩
  have hno : (∀ x ∈ P, x ≠ n) → F = false := fun h => by
    rw [hon, List.any_eq_false]
    intro x hx
    have := h x hx
    simp [this]
  obtain ⟨nl, hnl⟩ : ∃ n, ns.length = n := ⟨_, rfl⟩
  rw [hnl] at hp ⊢
  have HP := Lib.hid hp; have HY := Lib.hid hyes; have HNO := Lib.hid hno
  have g0 := Lib.hid (show Below w.heap.size w (w.alloc (.cells #[.slice an nl cn, .slice ah hl ch, .int .i64 ha, .int .i64 ag] 25)) from (Below.refl _ _).alloc (Nat.le_refl _) _)
  clear hp hyes hno hon hF hP hN hnl h12
  go_enter Try.func54, Try.ntmps54
  go_wp2_with fail
  refine (HP.out _ g0.out).mono ?_
  rintro er w1 ⟨v, rfl, ow, b1⟩
  obtain ⟨ao, cp, bb, rfl, sl⟩ := own_slice iC 68 (k := 1) (fun x => rfl) ow (fun b len cap i hi w0 => int_index b len cap i hi w0)
  have hix := sl.idx
  have n63 := sl.small
  have hat := sl.at_
  obtain ⟨pl, hpl⟩ : ∃ n, P.length = n := ⟨_, rfl⟩
  rw [hpl] at hix n63 ⊢
  obtain ⟨zp, hzp⟩ : ∃ z : Int, (pl : Int) = z := ⟨_, rfl⟩
  have HX := Lib.hid hix; have HAT := Lib.hid hat; have HPL := Lib.hid (And.intro hpl hzp); have G1 := Lib.hid (below_trans g0.out b1)
  clear hix hat hpl sl ow b1
  go_wp2_with fail
  go_loop [8] (fun i => ∃ (j : Int), i = .int .i64 j ∧ 0 ≤ j ∧ j ≤ zp ∧ Hid (Upto (fun x => decide (x ≠ n)) P j)) (fun i => (zp - intOf i).toNat)
  case atStart => exact ⟨0, rfl, by omega, by omega, Upto.zero _ _⟩
  case round =>
    obtain ⟨j, rfl, hj0, hjz, hd⟩ := hrel
    by_cases hlt : j < zp
    · obtain ⟨x, hx⟩ : ∃ x, P[j.toNat]? = some x := ⟨_, List.getElem?_eq_getElem (by have := HPL.out; omega)⟩
      have hi := HX.out j.toNat (by have := HPL.out; omega)
      rw [show ((j.toNat : Nat) : Int) = j by omega] at hi
      have hr : w1.cell? ⟨bb, 0 + j.toNat * 1, none⟩ = some (.int .i64 x) := HAT.out j.toNat x hx 0 _ rfl
      obtain ⟨oi, hoi⟩ : ∃ n, 0 + j.toNat * 1 = n := ⟨_, rfl⟩
      rw [hoi] at hi hr
      have HXX := Lib.hid hx
      clear hx hoi
      by_cases he : x = n
      · subst he
        have hf := HY.out (List.mem_of_getElem? HXX.out)
        subst hf
        go_wp2_with fail
        go_ret
        exact ⟨rfl, G1.out⟩
      · have he' : (x == n) = false := by simpa using he
        go_wp2_with fail
        go_round
        case rel => exact ⟨j + 1, rfl, by omega, by omega, hd.out.succ hj0 HXX.out (decide_eq_true he)⟩
        case measure => simp [intOf]; omega
    · have hf := HNO.out (fun x hx => by
        have h := hd.out.all (by have := HPL.out; omega)
        have := List.all_eq_true.1 h x hx
        simpa using this)
      subst hf
      go_wp2_with fail
      go_ret
      exact ⟨rfl, G1.out⟩

/-- Tenants, so far. -/
def Qt.leavesTo (ns : List Nd) (j : Nat) : List Int := ((List.range j).map fun i : Nat => (i : Int)).filter (Cf.leaf ns)
theorem Qt.leavesTo_succ (ns : List Nd) (j : Nat) : Qt.leavesTo ns (j + 1) = if Cf.leaf ns (j : Int) = true then Qt.leavesTo ns j ++ [(j : Int)] else Qt.leavesTo ns j := by
  unfold Qt.leavesTo
  rw [List.range_succ, List.map_append, List.filter_append, List.map_singleton]
  split
  · rename_i h; simp [h]
  · rename_i h; simp [h]
theorem Qt.leavesTo_few (ns : List Nd) (j : Nat) : (Qt.leavesTo ns j).length ≤ j := by
  unfold Qt.leavesTo
  exact Nat.le_trans (List.length_filter_le _ _) (by simp)
structure LvSo (ns : List Nd) (w : World) (C4 : Array Value) (j : Int) (v : Value) (wr : World) : Prop where
  row : wr.ownsRow (w.heap.size + 1) 3 1 v (Qt.leavesTo ns j.toNat).length (cellsOf iC (Qt.leavesTo ns j.toNat))
  box : Row wr w.heap.size C4 25
  low : Below w.heap.size w wr

set_option maxHeartbeats 1000000 in
set_option maxRecDepth 4000 in
theorem rLeaves_any (ns : List Nd) (an ah : Option Addr) (cn nb no hl ch : Nat) (ha ag : Int) (w : World) (hN : Sl Nd.c 22 11 w an cn nb no ns) (h12 : ns.length ≤ 12) :
    Calls Try.prog 53 #[.agg #[.slice an ns.length cn, .slice ah hl ch, .int .i64 ha, .int .i64 ag]] w fun e w' => ∃ v, e = .returned v ∧ w'.ownsRow (w.heap.size + 1) 3 1 v (Cf.leaves ns).length (cellsOf iC (Cf.leaves ns)) ∧ Below w.heap.size w w' := by
  have hlf := fun w2 (g : Below w.heap.size w w2) n => rLeaf_any ns an ah cn nb no hl ch ha ag n w2 (hN.kept g)
  have hall : Cf.leaves ns = Qt.leavesTo ns ns.length := rfl
  rw [hall]
  have n63 := hN.small
  have so0 : LvSo ns w #[.slice an ns.length cn, .slice ah hl ch, .int .i64 ha, .int .i64 ag] 0 (.slice none 0 0) (w.alloc (.cells #[.slice an ns.length cn, .slice ah hl ch, .int .i64 ha, .int .i64 ag] 25)) :=
    ⟨World.ownsRow_nil _ _ _ _, Row.new _ _ _, (Below.refl _ _).alloc (Nat.le_refl _) _⟩
  obtain ⟨nl, hnl⟩ : ∃ n, ns.length = n := ⟨_, rfl⟩
  rw [hnl] at hlf n63 so0 h12 ⊢
  obtain ⟨zn, hzn⟩ : ∃ z : Int, (nl : Int) = z := ⟨_, rfl⟩
  have z12 : zn ≤ 12 := by omega
  have HLF := Lib.hid hlf; have S0 := Lib.hid so0; have HZ := Lib.hid hzn
  clear hlf hN hnl so0 hall h12 
  go_enter Try.func53, Try.ntmps53
  go_wp2_with fail
  go_loopw [3, 4] (fun vv i wr => ∃ (j : Int), i = .int .i64 j ∧ 0 ≤ j ∧ j ≤ zn ∧ Hid (LvSo ns w #[.slice an nl cn, .slice ah hl ch, .int .i64 ha, .int .i64 ag] j vv wr)) (fun _ i _ => (zn - intOf i).toNat)
  case atStart => exact ⟨0, rfl, by omega, by omega, S0.out⟩
  case round =>
    obtain ⟨j, rfl, hj0, hjz, hd⟩ := hrel
    obtain ⟨ao, ln, cp, rfl⟩ := own_form hd.out.row
    have k0 : wr.cell? ⟨w.heap.size, 0, none⟩ = some (.slice an nl cn) := hd.out.box.at_ 0
    have k1 : wr.cell? ⟨w.heap.size, 1, none⟩ = some (.slice ah hl ch) := hd.out.box.at_ 1
    have k2 : wr.cell? ⟨w.heap.size, 2, none⟩ = some (.int .i64 ha) := hd.out.box.at_ 2
    have k3 : wr.cell? ⟨w.heap.size, 3, none⟩ = some (.int .i64 ag) := hd.out.box.at_ 3
    by_cases hlt : j < zn
    · have hsu := Qt.leavesTo_succ ns j.toNat
      rw [show ((j.toNat : Nat) : Int) = j by omega] at hsu
      have hfw := Qt.leavesTo_few ns j.toNat
      obtain ⟨F, hF⟩ : ∃ f, Cf.leaf ns j = f := ⟨_, rfl⟩
      have hc := HLF.out wr hd.out.low j
      rw [hF] at hsu hc
      have HSU := Lib.hid hsu; have HC := Lib.hid hc; have HFW := Lib.hid hfw
      clear hsu hc hF hfw
      go_wp2_with fail
      refine HC.out.mono ?_
      rintro er w1 ⟨rfl, b1⟩
      have box1 := hd.out.box.under b1
      have low1 := hd.out.low.trans (b1.mono hd.out.low.size)
      have row1 := own_keep hd.out.row (But.of_below (b := w.heap.size) b1) (own_low hd.out.row (by omega))
      have BOX1 := Lib.hid box1; have LOW1 := Lib.hid low1; have ROW1 := Lib.hid row1
      clear box1 low1 row1 b1 k0 k1 k2 k3
      cases F
      · have hs := HSU.out
        rw [if_neg (by simp)] at hs
        have HS := Lib.hid hs
        clear hs
        go_wp2_with fail
        go_roundw
        case rel => exact ⟨j + 1, rfl, by omega, by omega, by rw [show (j + 1).toNat = j.toNat + 1 by omega, HS.out]; exact ROW1.out, BOX1.out, LOW1.out⟩
        case measure => simp [intOf]; omega
      · have hs := HSU.out
        rw [if_pos rfl] at hs
        have HS := Lib.hid hs
        have hb : w.heap.size + 1 ≤ (w1.alloc (.cells #[.int .i64 j] 3)).heap.size := by have := BOX1.out.lt; rw [World.size_alloc]; omega
        obtain ⟨v', w3, hrun, own3, gr3⟩ := int_append (w1.alloc (.cells #[.int .i64 j] 3)) (w.heap.size + 1) (.slice ao ln cp) (Qt.leavesTo ns j.toNat) j (by have := HFW.out; omega) w1.heap.size (World.ownsRow.alloc ROW1.out _) (Row.new w1 _ _) hb
        obtain ⟨ao', ln', cp', rfl⟩ := own_form own3
        have box3 := Row.grown (BOX1.out.under ((Below.refl _ _).alloc (Nat.le_refl w1.heap.size) (.cells #[.int .i64 j] 3))) gr3 (own_low ROW1.out (by omega))
        have low3 : Below w.heap.size w w3 := Below.grown (LOW1.out.alloc LOW1.out.size _) gr3 (by omega) (fun k hk => by have := (ROW1.out.lt k hk).1; omega)
        have HRUN := Lib.hid hrun; have OWN3 := Lib.hid own3; have BOX3 := Lib.hid box3; have LOW3 := Lib.hid low3
        clear hs hb hrun own3 gr3 box3 low3
        go_wp2_with (first | (at_builtin; refine wpList_append_by rfl _ _ _ _ rfl _ _ _ _ rfl rfl HRUN.out ?_) | fail)
        go_roundw
        case rel => exact ⟨j + 1, rfl, by omega, by omega, by rw [show (j + 1).toNat = j.toNat + 1 by omega, HS.out]; exact OWN3.out, BOX3.out, LOW3.out⟩
        case measure => simp [intOf]; omega
    · have hfin : Hid (wr.ownsRow (w.heap.size + 1) 3 1 (.slice ao ln cp) (Qt.leavesTo ns nl).length (cellsOf iC (Qt.leavesTo ns nl)) ∧ Below w.heap.size w wr) := Lib.hid (by
        have h := hd.out.row
        rw [show j.toNat = nl by have := HZ.out; omega] at h
        exact ⟨h, hd.out.low⟩)
      clear hd
      go_wp2_with fail
      go_ret
      exact ⟨_, rfl, hfin.out⟩

end Go.Proofs.Ytkaikekibmgmmaa
namespace Go.Proofs.Ytkaikekibmgmmaa
open Go.RowKit
set_option linter.unusedVariables false

theorem own_slice2 {α : Type} (enc : α → Array Value) (T : TypeId) {e : TypeId} {k : Nat} (hk : ∀ x, (enc x).size = k) {w : World} {base : Nat} {v : Value} {l : List α} (h : w.ownsRow base e k v l.length (cellsOf enc l))
    (hT : ∀ (b len cap i : Nat), i < len → ∀ w0 : World, (Instr.indexAt T (.slice (some ⟨b, 0, none⟩) len cap) (.int .i64 (i : Int))).run Try.prog w0 = .ok (.pointer (some ⟨b, 0 + i * k, none⟩)) w0) :
    ∃ (ao : Option Addr) (cap bb : Nat), v = .slice ao l.length cap ∧ Sl enc T k w ao cap bb 0 l ∧ (0 < l.length → base ≤ bb) := by
  rcases h.2 with ⟨rfl, hn⟩ | ⟨g, cap, cur, rfl, hb, hg, hnc, hm, hs, ht⟩
  · obtain ⟨ao, cp, bb, e1, sl⟩ := own_slice enc T hk h hT
    exact ⟨ao, cp, bb, e1, sl, fun h0 => by omega⟩
  · refine ⟨some ⟨g, 0, none⟩, cap, g, rfl, ⟨by unfold maxLen at hm; omega, fun _ => lt_of_block hg, fun i hi w0 => hT g l.length cap i hi w0, fun i x hx j v hj => ?_⟩, fun _ => hb⟩
    rw [cell_of_row _ _ _ _ _ _ hg, Nat.zero_add]
    have hc := cellsOf_at enc k hk l i x j v hx hj
    rw [← ht] at hc
    have hlt : i * k + j < l.length * k := by
      rcases Nat.lt_or_ge (i * k + j) (l.length * k) with q | q
      · exact q
      · rw [List.getElem?_eq_none (by rw [List.length_take]; omega)] at hc; cases hc
    rw [List.getElem?_take_of_lt hlt] at hc
    simpa using hc

theorem cfg_row' {w : World} {g : Nat} {cs : Array Value} {t : TypeId} (h : Row w g cs t) {w' : World} (k : Below w.heap.size w w') : ∃ t fr, w'.heap[g]? = some (.cells cs t fr) := ⟨t, (0, 0), h.under k⟩
theorem vec_row' {w : World} {g : Nat} {cs : Array Value} {t : TypeId} (h : Row w g cs t) {w' : World} (k : Below w.heap.size w w') : ∃ t fr, w'.heap[g]? = some (.cells cs t fr) := ⟨t, (0, 0), h.under k⟩

/-- Tenants below a node, so far. -/
def Qt.belowTo (ns : List Nd) (n : Int) (j : Nat) : List Int := ((Cf.leaves ns).take j).filter fun t => Qt.on ns n t
theorem Qt.belowTo_succ (ns : List Nd) (n : Int) (j : Nat) (x : Int) (h : (Cf.leaves ns)[j]? = some x) : Qt.belowTo ns n (j + 1) = if Qt.on ns n x = true then Qt.belowTo ns n j ++ [x] else Qt.belowTo ns n j := by
  unfold Qt.belowTo
  rw [List.take_add_one, h, List.filter_append]
  simp only [Option.toList_some]
  split
  · rename_i h; simp [h]
  · rename_i h; simp [h]
theorem Qt.belowTo_few (ns : List Nd) (n : Int) (j : Nat) : (Qt.belowTo ns n j).length ≤ ns.length := by
  unfold Qt.belowTo Cf.leaves
  refine Nat.le_trans (List.length_filter_le _ _) (Nat.le_trans (by rw [List.length_take]; exact Nat.min_le_right _ _) (Nat.le_trans (List.length_filter_le _ _) ?_))
  simp
theorem Qt.belowTo_all (ns : List Nd) (n : Int) (j : Nat) (h : (Cf.leaves ns).length ≤ j) : Qt.belowTo ns n j = Qt.below ns n := by
  unfold Qt.belowTo Qt.below
  rw [List.take_of_length_le h]
structure BwSo (ns : List Nd) (n : Int) (w1 : World) (j : Int) (v : Value) (wr : World) : Prop where
  row : wr.ownsRow w1.heap.size 3 1 v (Qt.belowTo ns n j.toNat).length (cellsOf iC (Qt.belowTo ns n j.toNat))
  low : Below w1.heap.size w1 wr

set_option maxHeartbeats 1000000 in
set_option maxRecDepth 8000 in
theorem rBelow_any (ns : List Nd) (an ah : Option Addr) (cn nb no hl ch : Nat) (ha ag n : Int) (w : World) (hN : Sl Nd.c 22 11 w an cn nb no ns) (h12 : ns.length ≤ 12) :
    Calls Try.prog 40 #[.agg #[.slice an ns.length cn, .slice ah hl ch, .int .i64 ha, .int .i64 ag], .int .i64 n] w fun e w' => ∃ v, e = .returned v ∧ w'.ownsRow (w.heap.size + 1) 3 1 v (Qt.below ns n).length (cellsOf iC (Qt.below ns n)) ∧ Below w.heap.size w w' := by
  have hon := fun w2 (g : Below w.heap.size w w2) t => rOn_any ns an ah cn nb no hl ch ha ag n t w2 (hN.kept g) h12
  have hlv := fun w2 (g : Below w.heap.size w w2) => rLeaves_any ns an ah cn nb no hl ch ha ag w2 (hN.kept g) h12
  have hsu := fun j x h => Qt.belowTo_succ ns n j x h
  have hfw := fun j => Qt.belowTo_few ns n j
  have hal := fun j h => Qt.belowTo_all ns n j h
  have so0 := fun w1 => (⟨World.ownsRow_nil _ _ _ _, Below.refl _ _⟩ : BwSo ns n w1 0 (.slice none 0 0) w1)
  obtain ⟨L, hL⟩ : ∃ l, Cf.leaves ns = l := ⟨_, rfl⟩
  rw [hL] at hlv hsu hal
  have r0 := Row.new w #[.slice an ns.length cn, .slice ah hl ch, .int .i64 ha, .int .i64 ag] 25
  have g0 : Below w.heap.size w (w.alloc (.cells #[.slice an ns.length cn, .slice ah hl ch, .int .i64 ha, .int .i64 ag] 25)) := (Below.refl _ _).alloc (Nat.le_refl _) _
  obtain ⟨nl, hnl⟩ : ∃ n, ns.length = n := ⟨_, rfl⟩
  rw [hnl] at hon hlv r0 g0 hfw h12 ⊢
  have HON := Lib.hid hon; have HLV := Lib.hid hlv; have HSU := Lib.hid hsu; have HFW := Lib.hid (And.intro h12 hfw); have HAL := Lib.hid hal; have SO := Lib.hid so0; have R0 := Lib.hid r0; have G0 := Lib.hid g0
  clear hon hlv hsu hfw hal so0 r0 g0 hL hN hnl h12
  go_enter Try.func40, Try.ntmps40
  go_wp2_with fail
  refine (HLV.out _ G0.out).mono ?_
  rintro er w1 ⟨v, rfl, ow, b1⟩
  obtain ⟨ao, cp, bb, rfl, sl⟩ := own_slice iC 68 (k := 1) (fun x => rfl) ow (fun b len cap i hi w0 => int_index b len cap i hi w0)
  have hix := sl.idx
  have n63 := sl.small
  obtain ⟨pl, hpl⟩ : ∃ n, L.length = n := ⟨_, rfl⟩
  have HSL := Lib.hid sl
  rw [hpl] at hix n63 ⊢
  obtain ⟨zp, hzp⟩ : ∃ z : Int, (pl : Int) = z := ⟨_, rfl⟩
  have HX := Lib.hid hix; have HPL := Lib.hid (And.intro hpl hzp); have R1 := Lib.hid (R0.out.under b1); have G1 := Lib.hid (below_trans G0.out b1); have S1 := Lib.hid (SO.out w1)
  clear hix hpl sl ow b1
  go_wp2_with fail
  go_loopw [5, 7] (fun vv i wr => ∃ (j : Int), i = .int .i64 j ∧ 0 ≤ j ∧ j ≤ zp ∧ Hid (BwSo ns n w1 j vv wr)) (fun _ i _ => (zp - intOf i).toNat)
  case atStart => exact ⟨0, rfl, by omega, by omega, S1.out⟩
  case round =>
    obtain ⟨j, rfl, hj0, hjz, hd⟩ := hrel
    obtain ⟨ao2, ln2, cp2, rfl⟩ := own_form hd.out.row
    by_cases hlt : j < zp
    · obtain ⟨x, hx⟩ : ∃ x, L[j.toNat]? = some x := ⟨_, List.getElem?_eq_getElem (by have := HPL.out; omega)⟩
      have hi := HX.out j.toNat (by have := HPL.out; omega)
      rw [show ((j.toNat : Nat) : Int) = j by omega] at hi
      have hs := HSU.out j.toNat x hx
      have hcl := fun w2 (g : Below wr.heap.size wr w2) => (HSL.out.kept (below_trans hd.out.low g)).at_ j.toNat x hx 0 _ rfl
      simp only [Nat.add_zero] at hcl
      obtain ⟨oi, hoi⟩ : ∃ n, 0 + j.toNat * 1 = n := ⟨_, rfl⟩
      rw [hoi] at hi hcl
      obtain ⟨F, hF⟩ : ∃ f, Qt.on ns n x = f := ⟨_, rfl⟩
      have GR := Lib.hid (G1.out.trans (hd.out.low.mono G1.out.size))
      have hc := fun w2 (g : Below wr.heap.size wr w2) => HON.out w2 (below_trans GR.out g) x
      simp only [hF] at hc
      rw [hF] at hs
      have rr := fun w2 (g : Below wr.heap.size wr w2) => cfg_row' (R1.out.under hd.out.low) g
      have HI := Lib.hid hi; have HC := Lib.hid hc; have HCL := Lib.hid hcl; have HS := Lib.hid hs; have HD := Lib.hid hd.out
      clear hi hc hcl hs hx hoi hF hd
      go_wp2_with fail
      refine region_quiet (fun w2 => Below wr.heap.size wr w2) (by kernel_rfl) (by kernel_rfl) (below_drewN (Below.refl _ _) 1) ?_
      repeat (first
        | (go_big_quiet_skip)
        | (refine quiet_row _ _ 25 _ _ rr rfl rfl ?_ Try.underlying25 rfl ?_ ?_; (focus kernel_rfl); (focus kernel_rfl); simp only [Act.put, List.setIfInBounds_toArray, List.set_cons_zero, List.set_cons_succ])
        | (with_reducible refine quiet_index 68 _ _ _ _ _ (fun w0 => HI.out w0) rfl rfl rfl ?_ ?_; (focus kernel_rfl); simp only [Act.put, List.setIfInBounds_toArray, List.set_cons_zero, List.set_cons_succ])
        | (refine quiet_cell _ _ 3 _ _ HCL.out rfl rfl ?_ Try.underlying3 rfl ?_; (focus kernel_rfl); simp only [Act.put, List.setIfInBounds_toArray, List.set_cons_zero, List.set_cons_succ])
        | (go_big_quiet_step ((intro g2; first
          | (with_reducible rfl)
          | (with_reducible exact quiet_below g2 (HC.out _ g2))))))
      refine wpQuiet_nil ?_
      intro w2 g2
      have row2 := Lib.hid (own_keep HD.out.row (But.of_below (b := w.heap.size) g2) (own_low HD.out.row (by have := R1.out.lt; omega)))
      have low2 := Lib.hid (HD.out.low.trans (g2.mono HD.out.low.size))
      have c2 : w2.cell? ⟨bb, oi, none⟩ = some (.int .i64 x) := HCL.out w2 g2
      have hi := HI.out
      clear g2 rr HC HCL HD
      cases F
      · have hs := HS.out
        rw [if_neg (by simp)] at hs
        have HS' := Lib.hid hs
        clear hs HS
        go_wp2_with fail
        go_roundw
        case rel => exact ⟨j + 1, rfl, by omega, by omega, by rw [show (j + 1).toNat = j.toNat + 1 by omega, HS'.out]; exact row2.out, low2.out⟩
        case measure => simp [intOf]; omega
      · have hs := HS.out
        rw [if_pos rfl] at hs
        have HS' := Lib.hid hs
        have hb : w1.heap.size ≤ (w2.alloc (.cells #[.int .i64 x] 3)).heap.size := by have := low2.out.size; rw [World.size_alloc]; omega
        obtain ⟨v', w3, hrun, own3, gr3⟩ := int_append (w2.alloc (.cells #[.int .i64 x] 3)) w1.heap.size (.slice ao2 ln2 cp2) (Qt.belowTo ns n j.toNat) x (by have := HFW.out.1; have := HFW.out.2 j.toNat; omega) w2.heap.size (World.ownsRow.alloc row2.out _) (Row.new w2 _ _) hb
        obtain ⟨ao', ln', cp', rfl⟩ := own_form own3
        have low3 : Below w1.heap.size w1 w3 := Below.grown (low2.out.alloc low2.out.size _) gr3 hb (fun k hk => (row2.out.lt k hk).1)
        have HRUN := Lib.hid hrun; have OWN3 := Lib.hid own3; have LOW3 := Lib.hid low3
        clear hs hb hrun own3 gr3 low3 HS
        go_wp2_with (first | (at_builtin; refine wpList_append_by rfl _ _ _ _ rfl _ _ _ _ rfl rfl HRUN.out ?_) | fail)
        go_roundw
        case rel => exact ⟨j + 1, rfl, by omega, by omega, by rw [show (j + 1).toNat = j.toNat + 1 by omega, HS'.out]; exact OWN3.out, LOW3.out⟩
        case measure => simp [intOf]; omega
    · have hfin : Hid (wr.ownsRow (w.heap.size + 1) 3 1 (.slice ao2 ln2 cp2) (Qt.below ns n).length (cellsOf iC (Qt.below ns n)) ∧ Below w.heap.size w wr) := Lib.hid (by
        have h := hd.out.row
        rw [HAL.out j.toNat (by have := HPL.out; omega)] at h
        exact ⟨own_base h (by have := R1.out.lt; omega), G1.out.trans (hd.out.low.mono G1.out.size)⟩)
      clear hd
      go_wp2_with fail
      go_ret
      exact ⟨_, rfl, hfin.out⟩

/-- Sums, so far. -/
theorem Qt.sumL_snoc (l : List V3) : ∀ (r : List Int) (v : V3) (b : Int), Qt.sumL l v (r ++ [b]) = Qt.add (Qt.sumL l v r) (Qt.ath l b)
  | [], v, b => rfl
  | c :: r, v, b => Qt.sumL_snoc l r _ b
def Qt.sumTo (l : List V3) (r : List Int) (j : Nat) : V3 := Qt.sumL l Qt.z3 (r.take j)
theorem Qt.sumTo_succ (l : List V3) (r : List Int) (j : Nat) (b : Int) (h : r[j]? = some b) : Qt.sumTo l r (j + 1) = Qt.add (Qt.sumTo l r j) (Qt.ath l b) := by
  unfold Qt.sumTo
  rw [List.take_add_one, h]
  exact Qt.sumL_snoc _ _ _ _
structure SmSo (w : World) (C4 : Array Value) (x : V3) (w1 wr : World) : Prop where
  v : Row wr (w.heap.size + 2) x.c 35
  res : Row wr (w.heap.size + 1) #[.int .i64 0, .int .i64 0, .int .i64 0] 35
  low : Below w.heap.size w wr
  but : But (w.heap.size + 2) w1 wr

set_option maxHeartbeats 1000000 in
set_option maxRecDepth 8000 in
theorem rSum_any (ns : List Nd) (l : List V3) (an ah ao : Option Addr) (cn nb no hl ch cp lb lo : Nat) (ha ag n : Int) (w : World) (hN : Sl Nd.c 22 11 w an cn nb no ns) (h12 : ns.length ≤ 12) (hU : Sl V3.c 41 3 w ao cp lb lo l) :
    Calls Try.prog 22 #[.agg #[.slice an ns.length cn, .slice ah hl ch, .int .i64 ha, .int .i64 ag], .int .i64 n, .slice ao l.length cp] w (RetBelow (.agg (Qt.sum ns n l).c) w) := by
  have hbl := fun w2 (g : Below w.heap.size w w2) => rBelow_any ns an ah cn nb no hl ch ha ag n w2 (hN.kept g) h12
  have hat := fun w2 (g : Below w.heap.size w w2) b => rAt3 l ao cp lb lo b w2 (hU.kept g)
  have hsu := fun r j b h => Qt.sumTo_succ l r j b h
  have hsum : Qt.sum ns n l = Qt.sumL l Qt.z3 (Qt.below ns n) := rfl
  obtain ⟨L, hL⟩ : ∃ l, Qt.below ns n = l := ⟨_, rfl⟩
  rw [hL] at hbl hsum
  have hall : Qt.sumTo l L L.length = Qt.sum ns n l := by rw [hsum, Qt.sumTo, List.take_length]
  obtain ⟨S, hS⟩ : ∃ s, Qt.sum ns n l = s := ⟨_, rfl⟩
  rw [hS] at hall ⊢
  have hz0 : Qt.sumTo l L 0 = Qt.z3 := rfl
  obtain ⟨f, hf⟩ : ∃ f : Nat → V3, Qt.sumTo l L = f := ⟨_, rfl⟩
  obtain ⟨u, hu⟩ : ∃ u : Int → V3, Qt.ath l = u := ⟨_, rfl⟩
  have hsu' := hsu L
  rw [hf, hu] at hsu'
  rw [hf] at hall hz0
  simp only [hu] at hat
  have n63 := hN.small; have l63 := hU.small
  obtain ⟨nl, hnl⟩ : ∃ n, ns.length = n := ⟨_, rfl⟩
  obtain ⟨ll, hll⟩ : ∃ n, l.length = n := ⟨_, rfl⟩
  rw [hnl] at hbl n63 ⊢
  rw [hll] at hat l63 ⊢
  have g0 : Below w.heap.size w (((w.alloc (.cells #[.slice an nl cn, .slice ah hl ch, .int .i64 ha, .int .i64 ag] 25)).alloc (.cells #[.int .i64 0, .int .i64 0, .int .i64 0] 35)).alloc (.cells #[.int .i64 0, .int .i64 0, .int .i64 0] 35)) := (two_below _ _ _).alloc (two_below _ _ _).size _
  have s1 : ((w.alloc (.cells #[.slice an nl cn, .slice ah hl ch, .int .i64 ha, .int .i64 ag] 25)).alloc (.cells #[.int .i64 0, .int .i64 0, .int .i64 0] 35)).heap.size = w.heap.size + 2 := by rw [World.size_alloc, World.size_alloc]
  have rB : Row ((w.alloc (.cells #[.slice an nl cn, .slice ah hl ch, .int .i64 ha, .int .i64 ag] 25)).alloc (.cells #[.int .i64 0, .int .i64 0, .int .i64 0] 35)) (w.heap.size + 1) #[.int .i64 0, .int .i64 0, .int .i64 0] 35 := by
    have h := Row.new (w.alloc (.cells #[.slice an nl cn, .slice ah hl ch, .int .i64 ha, .int .i64 ag] 25)) #[.int .i64 0, .int .i64 0, .int .i64 0] 35
    rwa [World.size_alloc] at h
  have rC := Row.new ((w.alloc (.cells #[.slice an nl cn, .slice ah hl ch, .int .i64 ha, .int .i64 ag] 25)).alloc (.cells #[.int .i64 0, .int .i64 0, .int .i64 0] 35)) #[.int .i64 0, .int .i64 0, .int .i64 0] 35
  rw [s1] at rC
  have rB' := rB.under ((Below.refl _ _).alloc (Nat.le_refl _) (.cells #[.int .i64 0, .int .i64 0, .int .i64 0] 35))
  have s2 : (((w.alloc (.cells #[.slice an nl cn, .slice ah hl ch, .int .i64 ha, .int .i64 ag] 25)).alloc (.cells #[.int .i64 0, .int .i64 0, .int .i64 0] 35)).alloc (.cells #[.int .i64 0, .int .i64 0, .int .i64 0] 35)).heap.size = w.heap.size + 3 := by rw [World.size_alloc, s1]
  have HBL := Lib.hid hbl; have HAT := Lib.hid hat; have HSU := Lib.hid hsu'; have HALL := Lib.hid hall; have HZ0 := Lib.hid hz0; have G0 := Lib.hid g0; have RB := Lib.hid rB'; have RC := Lib.hid rC; have S2 := Lib.hid s2
  clear hbl hat hsu hsu' hall hz0 g0 rB rB' rC s1 s2 hN hU hsum hL hS hf hu hnl hll h12
  go_enter Try.func22, Try.ntmps22
  go_wp2_with fail
  refine (HBL.out _ G0.out).mono ?_
  rintro er w1 ⟨v, rfl, ow, b1⟩
  rw [S2.out] at ow
  obtain ⟨ao2, cp2, bb, rfl, sl, hbb⟩ := own_slice2 iC 68 (k := 1) (fun x => rfl) ow (fun b len cap i hi w0 => int_index b len cap i hi w0)
  have hix := sl.idx
  have p63 := sl.small
  have so1 : SmSo w #[.slice an nl cn, .slice ah hl ch, .int .i64 ha, .int .i64 ag] (f 0) w1 w1 := ⟨by rw [HZ0.out]; exact RC.out.under b1, RB.out.under b1, below_trans G0.out b1, But.refl _ _⟩
  have hcell : ∀ wr, But (w.heap.size + 2) w1 wr → ∀ (j : Nat) x, L[j]? = some x → wr.cell? ⟨bb, 0 + j * 1, none⟩ = some (.int .i64 x) := fun wr k j x hx => by
    have hj : j < L.length := by
      rcases Nat.lt_or_ge j L.length with q | q
      · exact q
      · rw [List.getElem?_eq_none q] at hx; cases hx
    have h := sl.at_ j x hx 0 _ rfl
    exact (World.cell?_of_block (a := ⟨bb, _, none⟩) (k.block bb (sl.lt (by omega)) (by have := hbb (by omega); omega))).trans h
  obtain ⟨pl, hpl⟩ : ∃ n, L.length = n := ⟨_, rfl⟩
  rw [hpl] at hix p63 ⊢
  obtain ⟨zp, hzp⟩ : ∃ z : Int, (pl : Int) = z := ⟨_, rfl⟩
  have HX := Lib.hid hix; have HPL := Lib.hid (And.intro hpl hzp); have HCELL := Lib.hid hcell; have SO := Lib.hid so1
  clear hix hpl sl ow b1 hbb so1 hcell
  go_wp2_with fail
  go_loopw [9] (fun i wr => ∃ (j : Int), i = .int .i64 j ∧ 0 ≤ j ∧ j ≤ zp ∧ Hid (SmSo w #[.slice an nl cn, .slice ah hl ch, .int .i64 ha, .int .i64 ag] (f j.toNat) w1 wr)) (fun i _ => (zp - intOf i).toNat)
  case atStart => exact ⟨0, rfl, by omega, by omega, SO.out⟩
  case round =>
    obtain ⟨j, rfl, hj0, hjz, hd⟩ := hrel
    by_cases hlt : j < zp
    · obtain ⟨x, hx⟩ : ∃ x, L[j.toNat]? = some x := ⟨_, List.getElem?_eq_getElem (by have := HPL.out; omega)⟩
      have hi := HX.out j.toNat (by have := HPL.out; omega)
      rw [show ((j.toNat : Nat) : Int) = j by omega] at hi
      have hs := HSU.out j.toNat x hx
      have hc0 := HCELL.out wr hd.out.but j.toNat x hx
      obtain ⟨oi, hoi⟩ : ∃ n, 0 + j.toNat * 1 = n := ⟨_, rfl⟩
      rw [hoi] at hi hc0
      have hbr : bb < wr.heap.size := World.block_lt_of_cell? wr _ hc0
      have hcl := fun w2 (g : Below wr.heap.size wr w2) => (g.cell (p := ⟨bb, oi, none⟩) hbr).trans hc0
      have hca := fun w2 (g : Below wr.heap.size wr w2) => HAT.out w2 (below_trans hd.out.low g) x
      obtain ⟨y, hy⟩ : ∃ y, u x = y := ⟨_, rfl⟩
      rw [hy] at hs
      simp only [hy] at hca
      have hv := hd.out.v
      obtain ⟨sv, hsv⟩ : ∃ y, f j.toNat = y := ⟨_, rfl⟩
      rw [hsv] at hs hv
      have hadd := fun w => rAdd3 sv y w
      obtain ⟨sx, hsx⟩ : ∃ y, f (j.toNat + 1) = y := ⟨_, rfl⟩
      rw [hsx] at hs
      simp only [← hs] at hadd
      obtain ⟨x1, x2, x3⟩ := sv
      obtain ⟨y1, y2, y3⟩ := y
      obtain ⟨s1, s2, s3⟩ := sx
      simp only [V3.c] at hv hca hadd
      have rr := fun w2 (g : Below wr.heap.size wr w2) => vec_row' hv g
      have HI := Lib.hid hi; have HCL := Lib.hid hcl; have HCA := Lib.hid hca; have HADD := Lib.hid hadd; have HSX := Lib.hid hsx; have HV := Lib.hid hv; have HD := Lib.hid hd.out
      clear hi hcl hca hadd hsx hs hc0 hoi hbr hsv hy hx hv hd
      go_wp2_with fail
      refine region_quiet_tail 8 (fun w2 => Below wr.heap.size wr w2) (by kernel_rfl) (by kernel_rfl) (below_drewN (Below.refl _ _) 1) ?_
      simp only [List.take_succ_cons, List.take_zero, List.drop_succ_cons, List.drop_zero]
      repeat (first
        | (go_big_quiet_skip)
        | (refine quiet_row _ _ 35 _ _ rr rfl rfl ?_ Try.underlying35 rfl ?_ ?_; (focus kernel_rfl); (focus kernel_rfl); simp only [Act.put, List.setIfInBounds_toArray, List.set_cons_zero, List.set_cons_succ])
        | (with_reducible refine quiet_index 68 _ _ _ _ _ (fun w0 => HI.out w0) rfl rfl rfl ?_ ?_; (focus kernel_rfl); simp only [Act.put, List.setIfInBounds_toArray, List.set_cons_zero, List.set_cons_succ])
        | (refine quiet_cell _ _ 3 _ _ HCL.out rfl rfl ?_ Try.underlying3 rfl ?_; (focus kernel_rfl); simp only [Act.put, List.setIfInBounds_toArray, List.set_cons_zero, List.set_cons_succ])
        | (go_big_quiet_step ((intro g2; first
          | (with_reducible rfl)
          | (with_reducible exact quiet_below g2 (HCA.out _ g2))
          | (with_reducible exact quiet_below g2 (HADD.out _))))))
      refine wpQuiet_nil ?_
      intro w2 g2
      have v2 := HV.out.under g2
      have k3 : But (w.heap.size + 2) w2 (w2.setRow (w.heap.size + 2) #[.int .i64 s1, .int .i64 s2, .int .i64 s3]) := (But.refl _ _).setRow (.inr rfl) _
      have FIN := Lib.hid (show SmSo w #[.slice an nl cn, .slice ah hl ch, .int .i64 ha, .int .i64 ag] ⟨s1, s2, s3⟩ w1 (w2.setRow (w.heap.size + 2) #[.int .i64 s1, .int .i64 s2, .int .i64 s3]) from
        ⟨v2.setRow _, (HD.out.res.under g2).keep k3 (by omega), below_setRow3 (HD.out.low.trans (g2.mono HD.out.low.size)) (by omega) _, (HD.out.but.trans (But.of_below g2)).trans k3⟩)
      have V2 := Lib.hid v2
      clear g2 v2 k3 rr HCL HCA HADD HV HD HI
      go_wp2_with (first | (refine wpList_store_row rfl 35 _ _ rfl (w.heap.size + 2) #[.int .i64 s1, .int .i64 s2, .int .i64 s3] rfl rfl _ _ V2.out vec_len rfl (one_cells s1 s2 s3) ?_) | fail)
      go_roundw
      case rel => exact ⟨j + 1, rfl, by omega, by omega, by rw [show (j + 1).toNat = j.toNat + 1 by omega, HSX.out]; exact FIN.out⟩
      case measure => simp [intOf]; omega
    · have hv := hd.out.v
      rw [show j.toNat = L.length by have := HPL.out; omega, HALL.out] at hv
      have HR := Lib.hid hd.out.res; have HL := Lib.hid hd.out.low
      clear hd
      obtain ⟨s1, s2, s3⟩ := S
      simp only [V3.c] at hv ⊢
      have HV := Lib.hid hv
      clear hv
      go_wp2_with (first
        | (refine wpList_load_row rfl 35 _ rfl (w.heap.size + 2) rfl _ _ _ _ HV.out Try.underlying35 rfl vec_len ?_)
        | (refine wpList_store_row rfl 35 _ _ rfl (w.heap.size + 1) #[.int .i64 s1, .int .i64 s2, .int .i64 s3] rfl rfl _ _ HR.out vec_len rfl (one_cells s1 s2 s3) ?_)
        | fail)
      refine bodyPost_ret (results_cell_row (p := 6) (by kernel_rfl) _ _ (w.heap.size + 1) _ _ _ _ rfl (HR.out.setRow _) Try.underlying35 rfl vec_len) rfl ?_
      exact ⟨rfl, below_setRow3 HL.out (by omega) _⟩

end Go.Proofs.Ytkaikekibmgmmaa
namespace Go.Proofs.Ytkaikekibmgmmaa
open Go.RowKit
set_option linter.unusedVariables false

theorem vec_idx (b len cap i : Nat) (hi : i < len) (w0 : World) : (Instr.indexAt 41 (.slice (some ⟨b, 0, none⟩) len cap) (.int .i64 (i : Int))).run Try.prog w0 = .ok (.pointer (some ⟨b, 0 + i * 3, none⟩)) w0 := by
  have e : (⟨b, 0, none⟩ : Addr).add (i * 3) = ⟨b, 0 + i * 3, none⟩ := by unfold Addr.add; split <;> simp_all
  have h : (0 : Int) ≤ (i : Int) ∧ (i : Int) < (len : Int) := by omega
  simp [Instr.indexAt, run_underlying Try.underlying41, asIntOf, hi, e]
theorem vec_info : (Try.prog.info? 35).map (fun i => (i.zero, i.size, i.bytes)) = some (some (.agg (⟨0, 0, 0⟩ : V3).c), 3, 24) := by kernel_rfl
theorem V3.one (n : V3) : ∀ u ∈ n.c.toList, u.oneCell' = true := by
  intro u hu
  simp only [V3.c, List.mem_cons, List.not_mem_nil, or_false] at hu
  rcases hu with rfl | rfl | rfl <;> rfl
theorem vec_append (w : World) (base : Nat) (v : Value) (l : List V3) (x : V3) (hl : l.length ≤ 100) (g : Nat) (hown : w.ownsRow base 35 3 v l.length (cellsOf V3.c l)) (hg : Row w g x.c 35) (hb : base ≤ w.heap.size) :
    ∃ v' w', (Builtin.append_ #[41, 41] 41 #[v, .slice (some ⟨g, 0, none⟩) 1 1]).run Try.prog w = .ok v' w' ∧ w'.ownsRow base 35 3 v' (l ++ [x]).length (cellsOf V3.c (l ++ [x])) ∧ w.grownBy w' v.ownBlock := by
  obtain ⟨i0, hi, hz0, hz1, hz2⟩ := info_parts vec_info
  obtain ⟨v', w', h1, h2, h3, _⟩ := run_append_own (P := Try.prog) w base 41 41 35 i0 _ 3 24 Try.underlying41 hi hz0 hz1 hz2 rfl (by decide) v l.length (cellsOf V3.c l) hown ⟨g, 0, none⟩ 1 1 x.c.toList rfl
    (fun j u hu => by
      rw [Addr.add_mid, Nat.zero_add, hg.at_]
      simpa using hu) x.one (by unfold maxLen; omega) (by omega) hb
  refine ⟨v', w', h1, ?_, h3⟩
  rw [cellsOf_snoc, List.length_append]
  exact h2
theorem range_sub {w : World} {b o : Nat} {l : List Value} (h : w.rangeAt b o l) (k : Nat) (l' : List Value) (hl : ∀ j v, l'[j]? = some v → l[k + j]? = some v) : w.rangeAt b (o + k) l' := fun j v hj => by
  rw [Nat.add_assoc]
  exact h _ v (hl j v hj)
theorem nom_range {w : World} {b o : Nat} {x : Nd} (h : w.rangeAt b o x.c.toList) : w.rangeAt b (o + 2) [.int .i64 x.nom.x, .int .i64 x.nom.y, .int .i64 x.nom.z] := range_sub h 2 _ (by
  intro j v hj
  rcases j with _ | _ | _ | j
  · exact hj
  · exact hj
  · exact hj
  · simp at hj)
theorem bor_range {w : World} {b o : Nat} {x : Nd} (h : w.rangeAt b o x.c.toList) : w.rangeAt b (o + 5) [.int .i64 x.bor.x, .int .i64 x.bor.y, .int .i64 x.bor.z] := range_sub h 5 _ (by
  intro j v hj
  rcases j with _ | _ | _ | j
  · exact hj
  · exact hj
  · exact hj
  · simp at hj)

structure NmSo (ns : List Nd) (w : World) (C4 : Array Value) (j : Int) (v : Value) (wr : World) : Prop where
  row : wr.ownsRow (w.heap.size + 2) 35 3 v ((ns.map (·.nom)).take j.toNat).length (cellsOf V3.c ((ns.map (·.nom)).take j.toNat))
  box : Row wr w.heap.size C4 25
  res : Row wr (w.heap.size + 1) #[.int .i64 0, .int .i64 0, .int .i64 0] 35
  low : Below w.heap.size w wr

end Go.Proofs.Ytkaikekibmgmmaa
namespace Go.Proofs.Ytkaikekibmgmmaa
open Go.RowKit
set_option linter.unusedVariables false

theorem quiet_mid {P : Program} {ops : Array Oper} {C : World → Prop} {Q : Act → Prop} {a : Act} {o : Oper} {rest : List Oper} (b i : Nat) (cs : List Value) (ty : TypeId) (d : TypeDesc) (x : Operand) (hC : ∀ w, C w → w.rangeAt b i cs) (ho : o.op = .load ty x) (hx : a.eval x = .pointer (some ⟨b, i, none⟩))
    (hw : Region.wanted o (yielded ops a.tmps) = true) (hu : P.underlying ty = some d) (hd : d.isRow = true) (hi : (P.info? ty).map (·.size) = some cs.length) (h : wpQuiet P ops C Q rest (a.put o.dst (.agg cs.toArray))) : wpQuiet P ops C Q (o :: rest) a :=
  quiet_load (.pointer (some ⟨b, i, none⟩)) (.agg cs.toArray) ty x (fun w hw' => by
    simp only [Instr.loadAt, Instr.sureAddr, Sem.run_bind, Sem.run_pure, Result.andThen_ok, run_loadVar_mid w b i ty cs d (hC w hw') hu hd hi]) ho hx hw h

/-- The first j amounts are those used, the others nothing. -/
def Qt.fill (used : List V3) (n j : Nat) : List V3 := (List.range n).map fun i : Nat => if i < j then Qt.ath used (i : Int) else Qt.z3
theorem Qt.fill_len (used : List V3) (n j : Nat) : (Qt.fill used n j).length = n := by simp [Qt.fill]
theorem Qt.fill_zero (used : List V3) (n : Nat) : Qt.fill used n 0 = List.replicate n Qt.z3 := by
  unfold Qt.fill
  have h : (fun i : Nat => if i < 0 then Qt.ath used (i : Int) else Qt.z3) = fun _ => Qt.z3 := by funext i; rw [if_neg (by omega)]
  rw [h, List.map_const', List.length_range]
theorem Qt.fill_succ (used : List V3) (n j : Nat) (hj : j < n) : (Qt.fill used n j).set j (Qt.ath used (j : Int)) = Qt.fill used n (j + 1) := by
  apply List.ext_getElem?
  intro i
  rw [List.getElem?_set, Qt.fill_len]
  by_cases h : j = i
  · subst h
    rw [if_pos rfl, if_pos hj, Qt.fill, List.getElem?_map, List.getElem?_range hj, Option.map_some, if_pos (by omega)]
  · rw [if_neg h, Qt.fill, Qt.fill, List.getElem?_map, List.getElem?_map]
    cases q : (List.range n)[i]? with
    | none => rfl
    | some k =>
      have hk : k = i := by
        have hi : i < n := by
          rcases Nat.lt_or_ge i n with p | p
          · exact p
          · rw [List.getElem?_eq_none (by simpa using p)] at q; cases q
        rw [List.getElem?_range hi] at q
        simpa using q.symm
      subst hk
      simp only [Option.map_some]
      by_cases p : k < j
      · rw [if_pos p, if_pos (by omega)]
      · rw [if_neg p, if_neg (by omega)]
theorem Qt.fill_now (ns : List Nd) (used : List V3) (t : Int) (need : V3) (n : Nat) (hn : ns.length = n) : (Qt.fill used n n).set t.toNat (Qt.add (Qt.ath used t) need) = Qt.now ns used t need := by
  unfold Qt.now
  subst hn
  congr 1
  apply List.map_congr_left
  intro i hi
  rw [if_pos (List.mem_range.1 hi)]
theorem Qt.fill_at (used : List V3) (n : Nat) {t : Int} (h : 0 ≤ t ∧ t < n) : (Qt.fill used n n)[t.toNat]? = some (Qt.ath used t) := by
  rw [Qt.fill, List.getElem?_map, List.getElem?_range (by omega), Option.map_some, if_pos (by omega), show ((t.toNat : Nat) : Int) = t by omega]

theorem cells3_cons (x : V3) (l : List V3) : cellsOf V3.c (x :: l) = .int .i64 x.x :: .int .i64 x.y :: .int .i64 x.z :: cellsOf V3.c l := by simp [cellsOf, V3.c]
theorem cells3_set : ∀ (l : List V3) (i : Nat) (x : V3), i < l.length → (((cellsOf V3.c l).set (i * 3) (.int .i64 x.x)).set (i * 3 + 1) (.int .i64 x.y)).set (i * 3 + 2) (.int .i64 x.z) = cellsOf V3.c (l.set i x)
  | [], i, x, h => by simp at h
  | y :: l, 0, x, _ => by simp [cells3_cons]
  | y :: l, i + 1, x, h => by
    have ih := cells3_set l i x (by simpa using h)
    rw [List.set_cons_succ, cells3_cons, cells3_cons, ← ih]
    rw [show (i + 1) * 3 = i * 3 + 1 + 1 + 1 by omega, show i * 3 + 1 + 1 + 1 + 1 = i * 3 + 1 + 1 + 1 + 1 from rfl, show i * 3 + 1 + 1 + 1 + 2 = i * 3 + 2 + 1 + 1 + 1 from rfl]
    simp only [List.set_cons_succ]
theorem row_set3 {w : World} {B : Nat} {l : List V3} {t : TypeId} (h : Row w B (cellsOf V3.c l).toArray t) (i : Nat) (x : V3) (hi : i < l.length) :
    Row (w.setCells B (0 + i * 3) [.int .i64 x.x, .int .i64 x.y, .int .i64 x.z]) B (cellsOf V3.c (l.set i x)).toArray t := by
  have h3 := ((h.set (i * 3) (.int .i64 x.x)).set (i * 3 + 1) (.int .i64 x.y)).set (i * 3 + 2) (.int .i64 x.z)
  rw [List.setIfInBounds_toArray, List.setIfInBounds_toArray, List.setIfInBounds_toArray, cells3_set l i x hi] at h3
  rw [Nat.zero_add]
  exact h3
theorem but_set3 (w : World) (B o : Nat) (a b c : Value) : But B w (w.setCells B o [a, b, c]) :=
  (((But.refl B w).setCell (p := ⟨B, o, none⟩) (.inr rfl) a).setCell (p := ⟨B, o + 1, none⟩) (.inr rfl) b).setCell (p := ⟨B, o + 1 + 1, none⟩) (.inr rfl) c
theorem row_sl {w : World} {B : Nat} {l : List V3} {t : TypeId} (h : Row w B (cellsOf V3.c l).toArray t) (hs : l.length ≤ 9223372036854775807) (cap : Nat) : Sl V3.c 41 3 w (some ⟨B, 0, none⟩) cap B 0 l :=
  ⟨hs, fun _ => h.lt, fun i hi w0 => vec_idx B l.length cap i hi w0, fun i x hx j v hv => by
    rw [h.at_, Nat.zero_add]
    have := cellsOf_at V3.c 3 (fun _ => rfl) l i x j v hx hv
    simpa using this⟩
theorem row_there {w : World} {B : Nat} {l : List V3} {t : TypeId} (h : Row w B (cellsOf V3.c l).toArray t) (i : Nat) (hi : i < l.length) : w.there B (0 + i * 3) 3 := by
  have hl : (cellsOf V3.c l).length = l.length * 3 := by
    clear h hi
    induction l with
    | nil => rfl
    | cons y l ih => rw [cells3_cons]; simp only [List.length_cons, ih]; omega
  intro j hj
  refine ⟨?_, ?_⟩
  · rw [h.at_, List.getElem?_toArray, List.getElem?_eq_getElem (by omega)]
    rfl
  · exact h.soft _

theorem made_vecs (n : Nat) : madeCells (Value.agg (⟨0, 0, 0⟩ : V3).c).cells (n * 3) = (cellsOf V3.c (List.replicate n Qt.z3)).toArray := by
  have hr : cellsOf V3.c (List.replicate n Qt.z3) = List.replicate (n * 3) (.int .i64 0) := by
    induction n with
    | zero => rfl
    | succ n ih =>
      rw [List.replicate_succ, cells3_cons, ih, show (n + 1) * 3 = n * 3 + 1 + 1 + 1 by omega, List.replicate_succ, List.replicate_succ, List.replicate_succ]
      rfl
  rw [hr]
  apply Array.toList_inj.1
  apply List.ext_getElem?
  intro j
  by_cases h : j < n * 3
  · have : j % 3 = 0 ∨ j % 3 = 1 ∨ j % 3 = 2 := by omega
    rcases this with e | e | e <;> simp [madeCells, Value.cells, V3.c, h, e]
  · simp [madeCells, h]
theorem make_now (w : World) (n : Nat) (hn : n ≤ 12) : (Instr.makeSlice 41 (.int .i64 (n : Int)) (.int .i64 (n : Int))).run Try.prog w = .ok (.slice (some ⟨w.heap.size, 0, none⟩) n n) (w.alloc (.cells (cellsOf V3.c (List.replicate n Qt.z3)).toArray 35)) := by
  obtain ⟨i, hi, hz, hs, hb⟩ := info_parts vec_info
  have h := run_make (P := Try.prog) w 41 35 i _ Try.underlying41 hi hz .i64 .i64 n n (by omega) (by omega) (by rw [hb]; omega) (by omega)
  rw [hs, Int.toNat_natCast, made_vecs n] at h
  exact h

/-- What stands in every world of the walk. -/
structure SfSo (w : World) (C4 N3 : Array Value) (wr : World) : Prop where
  low : Below w.heap.size w wr
  cfg : Row wr w.heap.size C4 25
  need : Row wr (w.heap.size + 1 + 1) N3 35
theorem SfSo.kept {w wr wz : World} {C4 N3 : Array Value} (h : SfSo w C4 N3 wr) (g : Below wr.heap.size wr wz) : SfSo w C4 N3 wz := ⟨below_trans h.low g, h.cfg.under g, h.need.under g⟩
theorem SfSo.aside {w wr wz : World} {C4 N3 : Array Value} {B : Nat} (h : SfSo w C4 N3 wr) (hB : w.heap.size + 1 + 1 < B) (g : But B wr wz) : SfSo w C4 N3 wz :=
  ⟨h.low.trans (g.below (by omega) h.low.size), h.cfg.keep g (by omega), h.need.keep g (by omega)⟩

end Go.Proofs.Ytkaikekibmgmmaa
