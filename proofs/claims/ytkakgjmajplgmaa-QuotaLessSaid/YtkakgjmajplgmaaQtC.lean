/- The plain answer's On, Leaves, Below. -/
import Derived.Test.YtkakgjmajplgmaaQtB
import Derived.Test.YtkakgjmajplgmaaCfgC
import Derived.Test.YtkakgjmajplgmaaCell
namespace Go.Proofs.Ytkakgjmajplgmaa
open Go.RowKit
set_option linter.unusedVariables false

set_option maxHeartbeats 1000000 in
set_option maxRecDepth 4000 in
theorem rOn_any (ns : List Nd) (an ah : Option Addr) (cn nb no hl ch : Nat) (ha ag n t : Int) (w : World) (hN : Sl Nd.c 22 11 w an cn nb no ns) (h12 : ns.length ≤ 12) :
    Calls Try.prog 45 #[.agg #[.slice an ns.length cn, .slice ah hl ch, .int .i64 ha, .int .i64 ag], .int .i64 n, .int .i64 t] w (RetBelow (.bool (Qt.on ns n t)) w) := by
  have hp := fun w2 (g : Below w.heap.size w w2) => rPath_any ns an ah cn nb no hl ch ha ag t w2 (hN.kept g) h12
  have hon : Qt.on ns n t = (Qt.path ns t).any fun x => decide (x = n) := rfl
  obtain ⟨P, hP⟩ : ∃ p, Qt.path ns t = p := ⟨_, rfl⟩
  rw [hP] at hon hp
  obtain ⟨F, hF⟩ : ∃ f, Qt.on ns n t = f := ⟨_, rfl⟩
  rw [hF] at hon ⊢
  have hyes : n ∈ P → F = true := fun h => by rw [hon, List.any_eq_true]; exact ⟨n, h, by simp⟩
  have hno : (∀ x ∈ P, x ≠ n) → F = false := fun h => by
    rw [hon, List.any_eq_false]
    intro x hx
    have := h x hx
    simp [this]
  obtain ⟨nl, hnl⟩ : ∃ n, ns.length = n := ⟨_, rfl⟩
  rw [hnl] at hp ⊢
  have HP := Lib.hid hp; have HY := Lib.hid hyes; have HNO := Lib.hid hno
  have g0 := Lib.hid (show Below w.heap.size w (w.alloc (.cells #[.slice an nl cn, .slice ah hl ch, .int .i64 ha, .int .i64 ag] 25)) from (Below.refl _ _).alloc (Nat.le_refl _) _)
  clear hp hyes hno hon hF hP hN hnl h12
  go_enter Try.func45, Try.ntmps45
  go_wp2_with fail
  refine (HP.out _ g0.out).mono ?_
  rintro er w1 ⟨v, rfl, ow, b1⟩
  obtain ⟨ao, cp, bb, rfl, sl⟩ := own_slice iC 36 (k := 1) (fun x => rfl) ow (fun b len cap i hi w0 => int_index b len cap i hi w0)
  have hix := sl.idx
  have n63 := sl.small
  have hat := sl.at_
  obtain ⟨pl, hpl⟩ : ∃ n, P.length = n := ⟨_, rfl⟩
  rw [hpl] at hix n63 ⊢
  obtain ⟨zp, hzp⟩ : ∃ z : Int, (pl : Int) = z := ⟨_, rfl⟩
  have HX := Lib.hid hix; have HAT := Lib.hid hat; have HPL := Lib.hid (And.intro hpl hzp); have G1 := Lib.hid (below_trans g0.out b1)
  clear hix hat hpl sl ow b1
  go_wp2_with fail
  go_loop [8] (fun i => ∃ (j : Int), i = .int .i64 j ∧ 0 ≤ j ∧ j ≤ zp ∧ Hid (Upto (fun x => decide (x ≠ n)) P j)) (fun i => (zp - intOf i).toNat)
  case atStart => exact ⟨0, rfl, by omega, by omega, Upto.zero _ _⟩
  case round =>
    obtain ⟨j, rfl, hj0, hjz, hd⟩ := hrel
    by_cases hlt : j < zp
    · obtain ⟨x, hx⟩ : ∃ x, P[j.toNat]? = some x := ⟨_, List.getElem?_eq_getElem (by have := HPL.out; omega)⟩
      have hi := HX.out j.toNat (by have := HPL.out; omega)
      rw [show ((j.toNat : Nat) : Int) = j by omega] at hi
      have hr : w1.cell? ⟨bb, 0 + j.toNat * 1, none⟩ = some (.int .i64 x) := HAT.out j.toNat x hx 0 _ rfl
      obtain ⟨oi, hoi⟩ : ∃ n, 0 + j.toNat * 1 = n := ⟨_, rfl⟩
      rw [hoi] at hi hr
      have HXX := Lib.hid hx
      clear hx hoi
      by_cases he : x = n
      · subst he
        have hf := HY.out (List.mem_of_getElem? HXX.out)
        subst hf
        go_wp2_with fail
        go_ret
        exact ⟨rfl, G1.out⟩
      · have he' : (x == n) = false := by simpa using he
        go_wp2_with fail
        go_round
        case rel => exact ⟨j + 1, rfl, by omega, by omega, hd.out.succ hj0 HXX.out (decide_eq_true he)⟩
        case measure => simp [intOf]; omega
    · have hf := HNO.out (fun x hx => by
        have h := hd.out.all (by have := HPL.out; omega)
        have := List.all_eq_true.1 h x hx
        simpa using this)
      subst hf
      go_wp2_with fail
      go_ret
      exact ⟨rfl, G1.out⟩

/-- Tenants, so far. -/
def Qt.leavesTo (ns : List Nd) (j : Nat) : List Int := ((List.range j).map fun i : Nat => (i : Int)).filter (Cf.leaf ns)
theorem Qt.leavesTo_succ (ns : List Nd) (j : Nat) : Qt.leavesTo ns (j + 1) = if Cf.leaf ns (j : Int) = true then Qt.leavesTo ns j ++ [(j : Int)] else Qt.leavesTo ns j := by
  unfold Qt.leavesTo
  rw [List.range_succ, List.map_append, List.filter_append, List.map_singleton]
  split
  · rename_i h; simp [h]
  · rename_i h; simp [h]
theorem Qt.leavesTo_few (ns : List Nd) (j : Nat) : (Qt.leavesTo ns j).length ≤ j := by
  unfold Qt.leavesTo
  exact Nat.le_trans (List.length_filter_le _ _) (by simp)
structure LvSo (ns : List Nd) (w : World) (C4 : Array Value) (j : Int) (v : Value) (wr : World) : Prop where
  row : wr.ownsRow (w.heap.size + 1) 3 1 v (Qt.leavesTo ns j.toNat).length (cellsOf iC (Qt.leavesTo ns j.toNat))
  box : Row wr w.heap.size C4 25
  low : Below w.heap.size w wr

set_option maxHeartbeats 1000000 in
set_option maxRecDepth 4000 in
theorem rLeaves_any (ns : List Nd) (an ah : Option Addr) (cn nb no hl ch : Nat) (ha ag : Int) (w : World) (hN : Sl Nd.c 22 11 w an cn nb no ns) (h12 : ns.length ≤ 12) :
    Calls Try.prog 44 #[.agg #[.slice an ns.length cn, .slice ah hl ch, .int .i64 ha, .int .i64 ag]] w fun e w' => ∃ v, e = .returned v ∧ w'.ownsRow (w.heap.size + 1) 3 1 v (Cf.leaves ns).length (cellsOf iC (Cf.leaves ns)) ∧ Below w.heap.size w w' := by
  have hlf := fun w2 (g : Below w.heap.size w w2) n => rLeaf_any ns an ah cn nb no hl ch ha ag n w2 (hN.kept g)
  have hall : Cf.leaves ns = Qt.leavesTo ns ns.length := rfl
  rw [hall]
  have n63 := hN.small
  have so0 : LvSo ns w #[.slice an ns.length cn, .slice ah hl ch, .int .i64 ha, .int .i64 ag] 0 (.slice none 0 0) (w.alloc (.cells #[.slice an ns.length cn, .slice ah hl ch, .int .i64 ha, .int .i64 ag] 25)) :=
    ⟨World.ownsRow_nil _ _ _ _, Row.new _ _ _, (Below.refl _ _).alloc (Nat.le_refl _) _⟩
  obtain ⟨nl, hnl⟩ : ∃ n, ns.length = n := ⟨_, rfl⟩
  rw [hnl] at hlf n63 so0 h12 ⊢
  obtain ⟨zn, hzn⟩ : ∃ z : Int, (nl : Int) = z := ⟨_, rfl⟩
  have z12 : zn ≤ 12 := by omega
  have HLF := Lib.hid hlf; have S0 := Lib.hid so0; have HZ := Lib.hid hzn
  clear hlf hN hnl so0 hall h12 
  go_enter Try.func44, Try.ntmps44
  go_wp2_with fail
  go_loopw [3, 4] (fun vv i wr => ∃ (j : Int), i = .int .i64 j ∧ 0 ≤ j ∧ j ≤ zn ∧ Hid (LvSo ns w #[.slice an nl cn, .slice ah hl ch, .int .i64 ha, .int .i64 ag] j vv wr)) (fun _ i _ => (zn - intOf i).toNat)
  case atStart => exact ⟨0, rfl, by omega, by omega, S0.out⟩
  case round =>
    obtain ⟨j, rfl, hj0, hjz, hd⟩ := hrel
    obtain ⟨ao, ln, cp, rfl⟩ := own_form hd.out.row
    have k0 : wr.cell? ⟨w.heap.size, 0, none⟩ = some (.slice an nl cn) := hd.out.box.at_ 0
    have k1 : wr.cell? ⟨w.heap.size, 1, none⟩ = some (.slice ah hl ch) := hd.out.box.at_ 1
    have k2 : wr.cell? ⟨w.heap.size, 2, none⟩ = some (.int .i64 ha) := hd.out.box.at_ 2
    have k3 : wr.cell? ⟨w.heap.size, 3, none⟩ = some (.int .i64 ag) := hd.out.box.at_ 3
    by_cases hlt : j < zn
    · have hsu := Qt.leavesTo_succ ns j.toNat
      rw [show ((j.toNat : Nat) : Int) = j by omega] at hsu
      have hfw := Qt.leavesTo_few ns j.toNat
      obtain ⟨F, hF⟩ : ∃ f, Cf.leaf ns j = f := ⟨_, rfl⟩
      have hc := HLF.out wr hd.out.low j
      rw [hF] at hsu hc
      have HSU := Lib.hid hsu; have HC := Lib.hid hc; have HFW := Lib.hid hfw
      clear hsu hc hF hfw
      go_wp2_with fail
      refine HC.out.mono ?_
      rintro er w1 ⟨rfl, b1⟩
      have box1 := hd.out.box.under b1
      have low1 := hd.out.low.trans (b1.mono hd.out.low.size)
      have row1 := own_keep hd.out.row (But.of_below (b := w.heap.size) b1) (own_low hd.out.row (by omega))
      have BOX1 := Lib.hid box1; have LOW1 := Lib.hid low1; have ROW1 := Lib.hid row1
      clear box1 low1 row1 b1 k0 k1 k2 k3
      cases F
      · have hs := HSU.out
        rw [if_neg (by simp)] at hs
        have HS := Lib.hid hs
        clear hs
        go_wp2_with fail
        go_roundw
        case rel => exact ⟨j + 1, rfl, by omega, by omega, by rw [show (j + 1).toNat = j.toNat + 1 by omega, HS.out]; exact ROW1.out, BOX1.out, LOW1.out⟩
        case measure => simp [intOf]; omega
      · have hs := HSU.out
        rw [if_pos rfl] at hs
        have HS := Lib.hid hs
        have hb : w.heap.size + 1 ≤ (w1.alloc (.cells #[.int .i64 j] 3)).heap.size := by have := BOX1.out.lt; rw [World.size_alloc]; omega
        obtain ⟨v', w3, hrun, own3, gr3⟩ := int_append (w1.alloc (.cells #[.int .i64 j] 3)) (w.heap.size + 1) (.slice ao ln cp) (Qt.leavesTo ns j.toNat) j (by have := HFW.out; omega) w1.heap.size (World.ownsRow.alloc ROW1.out _) (Row.new w1 _ _) hb
        obtain ⟨ao', ln', cp', rfl⟩ := own_form own3
        have box3 := Row.grown (BOX1.out.under ((Below.refl _ _).alloc (Nat.le_refl w1.heap.size) (.cells #[.int .i64 j] 3))) gr3 (own_low ROW1.out (by omega))
        have low3 : Below w.heap.size w w3 := Below.grown (LOW1.out.alloc LOW1.out.size _) gr3 (by omega) (fun k hk => by have := (ROW1.out.lt k hk).1; omega)
        have HRUN := Lib.hid hrun; have OWN3 := Lib.hid own3; have BOX3 := Lib.hid box3; have LOW3 := Lib.hid low3
        clear hs hb hrun own3 gr3 box3 low3
        go_wp2_with (first | (at_builtin; refine wpList_append_by rfl _ _ _ _ rfl _ _ _ _ rfl rfl HRUN.out ?_) | fail)
        go_roundw
        case rel => exact ⟨j + 1, rfl, by omega, by omega, by rw [show (j + 1).toNat = j.toNat + 1 by omega, HS.out]; exact OWN3.out, BOX3.out, LOW3.out⟩
        case measure => simp [intOf]; omega
    · have hfin : Hid (wr.ownsRow (w.heap.size + 1) 3 1 (.slice ao ln cp) (Qt.leavesTo ns nl).length (cellsOf iC (Qt.leavesTo ns nl)) ∧ Below w.heap.size w wr) := Lib.hid (by
        have h := hd.out.row
        rw [show j.toNat = nl by have := HZ.out; omega] at h
        exact ⟨h, hd.out.low⟩)
      clear hd
      go_wp2_with fail
      go_ret
      exact ⟨_, rfl, hfin.out⟩

end Go.Proofs.Ytkakgjmajplgmaa
