/- VecA KqA KqB KqC KqD KqE: joined. -/
import Derived.Test.YtkaikekibmgmmaaGa
import Derived.Test.YtkaikekibmgmmaaGe
import Derived.Test.YtkaikekibmgmmaaQtF
import Derived.Test.YtkaikekibmgmmaaGc
import Derived.RangeFuncNested
import Derived.RangeFuncBound
import Derived.RangeFuncCalls
import Derived.RangeFuncLeaves
import Derived.RangeFuncBox
import Derived.Shelf.Abstract
import Derived.Shelf.RegionOpen
import Derived.WalkKit
import Derived.OwnWalkIn
import Derived.TacticsInMore
import Derived.LoopNIn
import Derived.LoopIn
import Derived.Maps.AppendAt
namespace Go.Proofs.Ytkaikekibmgmmaa
open Go.RowKit
set_option linter.unusedVariables false

def AtEnd (I : Nat → World → Prop) (n : Nat) (v : Value) (e : Ending) (w : World) : Prop := e = .returned v ∧ I n w

/-- A function of the program is entered when it is called by its value. -/
def Enters (k : Nat) (cap : Array Value) : Prop := ∀ (r : Int) (w : World), (callFunc k (#[.int .i64 r] ++ cap)).run Try.prog w = .ok (.enter k (#[.int .i64 r] ++ cap)) w

set_option maxHeartbeats 400000 in
theorem each_any (k : Nat) (cap : Array Value) (hk : Enters k cap) (I : Nat → World → Prop) (hc : ∀ r : Nat, r < 3 → ∀ w, I r w → Calls Try.prog k (#[.int .i64 (r : Int)] ++ cap) w (AtEnd I (r + 1) (.tuple #[]))) (w : World) (h0 : I 0 w) :
    Calls Try.prog 41 #[.func (.func k) #[] cap] w (AtEnd I 3 (.tuple #[])) := by
  go_enter Try.func41, Try.ntmps41
  go_wp2_with fail
  go_loopw [3] (fun i wr => ∃ r : Nat, r ≤ 3 ∧ i = .int .i64 (r : Int) ∧ I r wr) (fun i _ => 3 - (intOf i).toNat)
  case atStart => exact ⟨0, by omega, rfl, h0⟩
  case round =>
    obtain ⟨r, hr, rfl, hI⟩ := hrel
    by_cases hlt : r < 3
    · have he := hk r wr
      go_wp2_with fail
      refine (hc r hlt wr hI).mono ?_
      rintro e w' ⟨rfl, hI'⟩
      clear he
      go_wp2_with fail
      go_roundw
      case rel => exact ⟨r + 1, by omega, by go_num, hI'⟩
      case measure => simp [intOf]; omega
    · obtain rfl : r = 3 := by omega
      go_wp2
      go_end0
      exact ⟨rfl, hI⟩

end Go.Proofs.Ytkaikekibmgmmaa
namespace Go.Proofs.Ytkaikekibmgmmaa
open Go.RowKit
set_option linter.unusedVariables false

namespace Qt
/-- The Parent that is below a node, or -1; whether a number is a node's. -/
def up (ns : List Nd) (n : Int) : Int := if 0 ≤ (nd ns n).par ∧ (nd ns n).par < n then (nd ns n).par else -1
def isIn (ns : List Nd) (n : Int) : Bool := decide (0 ≤ n ∧ n < ns.length)
/-- A node, its Parent, and so on. -/
def upTo (ns : List Nd) : Nat → Int → List Int
  | 0, _ => []
  | f + 1, n => if 0 ≤ n ∧ n < ns.length then n :: upTo ns f (up ns n) else []
def ups (ns : List Nd) (n : Int) : List Int := upTo ns (n + 1).toNat n
theorem upTo_out {ns : List Nd} {f : Nat} {n : Int} (h : ¬ (0 ≤ n ∧ n < ns.length)) : upTo ns f n = [] := by
  cases f with
  | zero => rfl
  | succ f => rw [upTo, if_neg h]
theorem upTo_in {ns : List Nd} {f : Nat} {n : Int} (h : 0 ≤ n ∧ n < ns.length) : upTo ns (f + 1) n = n :: upTo ns f (up ns n) := by rw [upTo, if_pos h]
theorem up_less (ns : List Nd) (n : Int) (h : 0 ≤ n) : up ns n < n := by unfold up; split <;> omega
theorem up_least (ns : List Nd) (n : Int) : -1 ≤ up ns n := by unfold up; split <;> omega
/-- Enough steps are enough. -/
theorem upTo_more (ns : List Nd) : ∀ (f g : Nat) (n : Int), (n + 1).toNat ≤ f → (n + 1).toNat ≤ g → upTo ns f n = upTo ns g n
  | 0, g, n, hf, _ => by rw [upTo_out (by omega), upTo_out (by omega)]
  | f + 1, 0, n, _, hg => by rw [upTo_out (by omega), upTo_out (by omega)]
  | f + 1, g + 1, n, hf, hg => by
    by_cases h : 0 ≤ n ∧ n < ns.length
    · have := up_less ns n h.1
      rw [upTo_in h, upTo_in h, upTo_more ns f g _ (by omega) (by omega)]
    · rw [upTo_out h, upTo_out h]
theorem ups_in {ns : List Nd} {n : Int} (h : 0 ≤ n ∧ n < ns.length) : ups ns n = n :: ups ns (up ns n) := by
  have := up_less ns n h.1
  unfold ups
  rw [show (n + 1).toNat = n.toNat + 1 by omega, upTo_in h, upTo_more ns n.toNat (up ns n + 1).toNat _ (by omega) (Nat.le_refl _)]
theorem ups_out {ns : List Nd} {n : Int} (h : ¬ (0 ≤ n ∧ n < ns.length)) : ups ns n = [] := upTo_out h
theorem pathTo_ups (ns : List Nd) : ∀ (f : Nat) (n : Int) (l : List Int), (n + 1).toNat ≤ f → pathTo ns f n l = (ups ns n).reverse ++ l
  | 0, n, l, hf => by rw [ups_out (by omega)]; rfl
  | f + 1, n, l, hf => by
    by_cases h : 0 ≤ n ∧ n < ns.length
    · rw [pathTo, if_pos h, ups_in h]
      by_cases hp : n ≤ (nd ns n).par
      · have hu : up ns n = -1 := by unfold up; rw [if_neg (by omega)]
        rw [if_pos hp, hu, ups_out (by omega)]
        rfl
      · rw [if_neg hp]
        by_cases hz : 0 ≤ (nd ns n).par
        · have hu : up ns n = (nd ns n).par := by unfold up; rw [if_pos (by omega)]
          rw [pathTo_ups ns f _ _ (by omega), hu, List.reverse_cons, List.append_assoc]
          rfl
        · have hu : up ns n = -1 := by unfold up; rw [if_neg (by omega)]
          rw [pathTo_ups ns f _ _ (by omega), hu, ups_out (by omega), ups_out (by omega)]
          rfl
    · rw [pathTo, if_neg h, ups_out h]
      rfl
theorem path_ups (ns : List Nd) (n : Int) : path ns n = (ups ns n).reverse := by
  unfold path
  rw [pathTo_ups ns _ _ _ (Nat.le_refl _), List.append_nil]
theorem ups_few (ns : List Nd) : ∀ (f : Nat) (n : Int), (n + 1).toNat ≤ f → (ups ns n).length ≤ (n + 1).toNat
  | 0, n, hf => by rw [ups_out (by omega)]; simp
  | f + 1, n, hf => by
    by_cases h : 0 ≤ n ∧ n < ns.length
    · have := up_less ns n h.1
      rw [ups_in h, List.length_cons]
      have := ups_few ns f (up ns n) (by omega)
      omega
    · rw [ups_out h]; simp
theorem ups_len (ns : List Nd) (n : Int) : (ups ns n).length ≤ ns.length := by
  by_cases h : 0 ≤ n ∧ n < ns.length
  · have := ups_few ns _ n (Nat.le_refl _)
    omega
  · rw [ups_out h]; simp
/-- Whether a node stands on another one's path, by its Parent's. -/
theorem on_in {ns : List Nd} {n m : Int} (h : 0 ≤ m ∧ m < ns.length) : on ns n m = (decide (m = n) || (isIn ns (up ns m) && on ns n (up ns m))) := by
  have e : ∀ k, on ns n k = (ups ns k).any fun x => decide (x = n) := fun k => by unfold on; rw [path_ups, List.any_reverse]
  rw [e, e, ups_in h, List.any_cons]
  by_cases hi : 0 ≤ up ns m ∧ up ns m < ns.length
  · unfold isIn
    rw [decide_eq_true hi, Bool.true_and]
  · unfold isIn
    rw [decide_eq_false hi, Bool.false_and, ups_out hi]
    rfl
theorem isIn_up {ns : List Nd} {m : Int} (h : m < ns.length) : isIn ns (up ns m) = decide (0 ≤ up ns m) := by
  unfold isIn
  by_cases h0 : 0 ≤ up ns m
  · have : up ns m < ns.length := by
      rcases Int.lt_or_le m 0 with q | q
      · unfold up at h0 ⊢; split at h0 <;> omega
      · have := up_less ns m q; omega
    rw [decide_eq_true h0, decide_eq_true ⟨h0, this⟩]
  · rw [decide_eq_false h0, decide_eq_false (by omega)]
end Qt

theorem qIsNode (vn vh : Value) (ns : List Nd) (an : Option Addr) (cn : Nat) (ha ag n : Int) (ah : Option Addr) (hl ch : Nat) (w : World) :
    Calls Try.prog 63 #[.agg #[.slice an ns.length cn, .slice ah hl ch, .int .i64 ha, .int .i64 ag], .int .i64 n] w (RetBelow (.bool (Qt.isIn ns n)) w) := by
  unfold Qt.isIn
  obtain ⟨nl, hnl⟩ : ∃ n, ns.length = n := ⟨_, rfl⟩
  rw [hnl]
  obtain ⟨zn, hzn⟩ : ∃ z : Int, (nl : Int) = z := ⟨_, rfl⟩
  rw [hzn]
  obtain ⟨F, hF⟩ : ∃ f, decide (0 ≤ n ∧ n < zn) = f := ⟨_, rfl⟩
  rw [hF]
  have hd : Hid (decide (0 ≤ n ∧ n < zn) = F) := Lib.hid hF
  have G := Lib.hid ((Below.refl w.heap.size w).alloc (Nat.le_refl _) (.cells #[.slice an nl cn, .slice ah hl ch, .int .i64 ha, .int .i64 ag] 25))
  clear hnl hF
  go_enter Try.func63, Try.ntmps63
  by_cases h0 : 0 ≤ n
  · by_cases h1 : n < zn
    · go_wp2_with fail
      go_ret
      exact ⟨by rw [← hd.out, decide_eq_true ⟨h0, h1⟩]; rfl, G.out⟩
    · go_wp2_with fail
      go_ret
      exact ⟨by rw [← hd.out, decide_eq_false (by omega)]; rfl, G.out⟩
  · go_wp2_with fail
    go_ret
    exact ⟨by rw [← hd.out, decide_eq_false (by omega)]; rfl, G.out⟩

theorem qParent (ns : List Nd) (an : Option Addr) (cn nb no : Nat) (ha ag n : Int) (ah : Option Addr) (hl ch : Nat) (w : World) (hN : Sl Nd.c 22 11 w an cn nb no ns) (h : 0 ≤ n ∧ n < ns.length) :
    Calls Try.prog 64 #[.agg #[.slice an ns.length cn, .slice ah hl ch, .int .i64 ha, .int .i64 ag], .int .i64 n] w (RetBelow (.int .i64 (Qt.up ns n)) w) := by
  have hx := Qt.node_in h
  have hi := hN.idx n.toNat (by omega)
  rw [show ((n.toNat : Nat) : Int) = n by omega] at hi
  have gg := (Below.refl w.heap.size w).alloc (Nat.le_refl _) (.cells #[.slice an ns.length cn, .slice ah hl ch, .int .i64 ha, .int .i64 ag] 25)
  have hr : (w.alloc (.cells #[.slice an ns.length cn, .slice ah hl ch, .int .i64 ha, .int .i64 ag] 25)).cell? ⟨nb, no + n.toNat * 11, none⟩ = some (.int .i64 (Qt.nd ns n).par) := (hN.kept gg).at_ n.toNat _ hx 0 _ rfl
  have hu : Qt.up ns n = if 0 ≤ (Qt.nd ns n).par ∧ (Qt.nd ns n).par < n then (Qt.nd ns n).par else -1 := rfl
  obtain ⟨U, hU⟩ : ∃ u, Qt.up ns n = u := ⟨_, rfl⟩
  rw [hU] at hu ⊢
  obtain ⟨p, hp⟩ : ∃ p, (Qt.nd ns n).par = p := ⟨_, rfl⟩
  rw [hp] at hr hu
  obtain ⟨nl, hnl⟩ : ∃ n, ns.length = n := ⟨_, rfl⟩
  rw [hnl] at hi hr gg ⊢
  obtain ⟨oi, hoi⟩ : ∃ k, no + n.toNat * 11 = k := ⟨_, rfl⟩
  rw [hoi] at hi hr
  have HU := Lib.hid hu; have G := Lib.hid gg
  clear hx hu hU hp hnl hoi gg h hN
  go_enter Try.func64, Try.ntmps64
  by_cases h0 : 0 ≤ p
  · by_cases h1 : p < n
    · have e := HU.out
      rw [if_pos ⟨h0, h1⟩] at e
      have E := Lib.hid e
      clear e HU
      go_wp2_with fail
      go_ret
      exact ⟨by rw [E.out]; rfl, G.out⟩
    · have e := HU.out
      rw [if_neg (by omega)] at e
      have E := Lib.hid e
      clear e HU
      go_wp2_with fail
      go_ret
      exact ⟨by rw [E.out]; rfl, G.out⟩
  · have e := HU.out
    rw [if_neg (by omega)] at e
    have E := Lib.hid e
    clear e HU
    go_wp2_with fail
    go_ret
    exact ⟨by rw [E.out]; rfl, G.out⟩

end Go.Proofs.Ytkaikekibmgmmaa
namespace Go.Proofs.Ytkaikekibmgmmaa
open Go Go.RowKit Go.Shelf
set_option linter.unusedVariables false
attribute [local go_sem] Oper.semAt_some

/-- What a round keeps: all cells but those of the block B and of the row that B's first cell points to; B points then to what it did, or to a new block. -/
structure Kb (B : Nat) (w w' : World) : Prop where
  os : w'.os = w.os
  tape : w'.tape = w.tape
  output : w'.output = w.output
  size : w.heap.size ≤ w'.heap.size
  block : ∀ (k : Nat) (o : Obj), w.heap[k]? = some o → o.isCells = true → k ≠ B → (∀ v, w.cell? ⟨B, 0, none⟩ = some v → v.ownBlock ≠ some k) → w'.heap[k]? = some o
  ptr : ∀ v', w'.cell? ⟨B, 0, none⟩ = some v' → (∃ v, w.cell? ⟨B, 0, none⟩ = some v ∧ v.ownBlock = v'.ownBlock) ∨ ∀ k, v'.ownBlock = some k → w.heap.size ≤ k
theorem Kb.trans {B : Nat} {a b c : World} (h : Kb B a b) (g : Kb B b c) : Kb B a c := by
  refine ⟨g.os.trans h.os, g.tape.trans h.tape, g.output.trans h.output, Nat.le_trans h.size g.size, fun k o hk ho hB hv => ?_, fun v' hv' => ?_⟩
  · refine g.block k o (h.block k o hk ho hB hv) ho hB (fun v' hv' => ?_)
    rcases h.ptr v' hv' with ⟨v, e1, e2⟩ | q
    · rw [← e2]; exact hv v e1
    · intro e
      have := q k e
      have := (Array.getElem?_eq_some_iff.1 hk).1
      omega
  · rcases g.ptr v' hv' with ⟨v, e1, e2⟩ | q
    · rcases h.ptr v e1 with ⟨u, f1, f2⟩ | q2
      · exact .inl ⟨u, f1, f2.trans e2⟩
      · exact .inr fun k e => q2 k (e2.trans e)
    · exact .inr fun k e => Nat.le_trans h.size (q k e)
theorem Kb.refl (B : Nat) (w : World) : Kb B w w := ⟨rfl, rfl, rfl, Nat.le_refl _, fun _ _ h _ _ _ => h, fun v' h => .inl ⟨v', h, rfl⟩⟩
theorem Kb.putObj {B : Nat} {w : World} (hB : B < w.heap.size) (W : World) (l : Nat) (o o' : Obj) (hl : w.heap.size ≤ l) (h : W.heap[l]? = some o) (hc : o.isCells = false) (_ : o.isWalk = false) : Kb B W (W.putObj l o') := by
  have g := grownBy_putObj' W l o'
  refine ⟨rfl, rfl, rfl, g.size, fun k q hk hq _ _ => (g.block k (Array.getElem?_eq_some_iff.1 hk).1 (fun e => ?_)).trans hk, fun v' hv' => .inl ⟨v', ?_, rfl⟩⟩
  · cases e
    rw [h] at hk; cases hk
    rw [hc] at hq; cases hq
  · have hlt : B < W.heap.size := by have := (Array.getElem?_eq_some_iff.1 h).1; omega
    have : (W.putObj l o').heap[B]? = W.heap[B]? := g.block B hlt (fun e => by cases e; omega)
    rw [World.cell?_of_block this] at hv'
    exact hv'
/-- What stood in a row of cells stands there. -/
theorem Kb.row {B : Nat} {w w' : World} (h : Kb B w w') {g : Nat} {cs : Array Value} {t : TypeId} (hr : Row w g cs t) (hB : g ≠ B) (hv : ∀ v, w.cell? ⟨B, 0, none⟩ = some v → v.ownBlock ≠ some g) : Row w' g cs t :=
  h.block g _ hr rfl hB hv
theorem grown_of_below {w w' : World} (g : Below w.heap.size w w') : w.grownBy w' none := ⟨g.os, g.tape, g.output, g.size, fun k hk _ => g.block k hk⟩
theorem Kb.of_below {B : Nat} {w w' : World} (hB : B < w.heap.size) (g : Below w.heap.size w w') : Kb B w w' :=
  ⟨g.os, g.tape, g.output, g.size, fun k o hk _ _ _ => (g.block k (Array.getElem?_eq_some_iff.1 hk).1).trans hk, fun v' hv' => .inl ⟨v', by rw [← hv']; exact (g.cell (p := ⟨B, 0, none⟩) hB).symm, rfl⟩⟩
/-- The block B does not point to k. -/
def Off (B k : Nat) (w : World) : Prop := k ≠ B ∧ ∀ v, w.cell? ⟨B, 0, none⟩ = some v → v.ownBlock ≠ some k
theorem Off.kb {B k : Nat} {w w' : World} (h : Off B k w) (g : Kb B w w') (hk : k < w.heap.size) : Off B k w' := by
  refine ⟨h.1, fun v' hv' e => ?_⟩
  rcases g.ptr v' hv' with ⟨v, e1, e2⟩ | q
  · exact h.2 v e1 (e2.trans e)
  · have := q k e; omega
theorem Off.below {B k : Nat} {w w' : World} (h : Off B k w) (hB : B < w.heap.size) (g : Below w.heap.size w w') : Off B k w' :=
  ⟨h.1, fun v' hv' => h.2 v' (by rw [← hv']; exact (g.cell (p := ⟨B, 0, none⟩) hB).symm)⟩

theorem Kb.cell {B : Nat} {w w' : World} (h : Kb B w w') {p : Addr} {v : Value} (hc : w.cell? p = some v) (ho : Off B p.block w) : w'.cell? p = some v := by
  obtain ⟨o, h1, h2⟩ := cells_of_cell hc
  exact (World.cell?_of_block ((h.block _ o h1 h2 ho.1 ho.2).trans h1.symm)).trans hc
theorem Sl.kb {α : Type} {enc : α → Array Value} {T : TypeId} {k : Nat} {w w' : World} {ao : Option Addr} {cap bb oo B : Nat} {l : List α} (h : Sl enc T k w ao cap bb oo l) (g : Kb B w w') (ho : 0 < l.length → Off B bb w) : Sl enc T k w' ao cap bb oo l :=
  ⟨h.small, fun h0 => Nat.lt_of_lt_of_le (h.lt h0) g.size, h.idx, fun i x hi j v hj => by
    have hl : i < l.length := by
      rcases Nat.lt_or_ge i l.length with q | q
      · exact q
      · rw [List.getElem?_eq_none q] at hi; cases hi
    exact g.cell (p := ⟨bb, _, none⟩) (h.at_ i x hi j v hj) (ho (by omega))⟩

end Go.Proofs.Ytkaikekibmgmmaa
namespace Go.Proofs.Ytkaikekibmgmmaa
open Go Go.RowKit Go.Shelf
set_option linter.unusedVariables false
attribute [local go_sem] Oper.semAt_some

/-- A fence that asks nothing. -/
structure Wd (F : Fence) : Prop where
  lift : ∀ {n : Nat} {f : FuncId} {args : Array Value} {w : World} {R : Ending → World → Prop}, Calls Try.prog f args w R → CallsIn F n Try.prog f args w R
  all : ∀ k, F.fn k
  ro : F.round = none
theorem Wd.wide : Wd Fence.wide := ⟨fun h => callsIn_wide.2 h, fun _ => trivial, rfl⟩

theorem qUpward (an : Option Addr) (nl cn : Nat) (ah : Option Addr) (hl ch : Nat) (ha ag n : Int) (w : World) :
    Calls Try.prog 59 #[.agg #[.slice an nl cn, .slice ah hl ch, .int .i64 ha, .int .i64 ag], .int .i64 n] w fun e w' => e = .returned (.func (.func 62) #[] #[.pointer (some ⟨w.heap.size + 1, 0, none⟩), .pointer (some ⟨w.heap.size, 0, none⟩)]) ∧
      w' = (w.alloc (.cells #[.slice an nl cn, .slice ah hl ch, .int .i64 ha, .int .i64 ag] 25)).alloc (.cells #[.int .i64 n] 3) := by
  have hmf : ∀ (fn : Fn) (first cap : Array Value) (w : World), (Instr.makeFunc fn first cap).run Try.prog w = .ok (.func fn first cap) w := fun _ _ _ _ => rfl
  go_enter Try.func59, Try.ntmps59
  go_wp2_with fail
  go_ret
  exact ⟨rfl, rfl⟩

set_option maxRecDepth 100000 in
set_option maxHeartbeats 2000000 in
/-- All on the way up, for every body that keeps what the way up reads. -/
theorem qUp1 (F : Fence) (hF : Wd F) (n : Nat) (hn : 1 ≤ n) (l B Bc Bn : Nat) (ns : List Nd) (an : Option Addr) (cn nb no : Nat) (ah : Option Addr) (hl ch : Nat) (ha ag m0 : Int) (J Jx : List Int → World → Prop) (W : World)
    (hJ : AbidesFrom W.heap.size J) (hB : B < W.heap.size) (hob : ns.length > 0 → Off B nb W) (hoc : Off B Bc W) (hN : Sl Nd.c 22 11 W an cn nb no ns) (hc : Row W Bc #[.slice an ns.length cn, .slice ah hl ch, .int .i64 ha, .int .i64 ag] 25) (hbn : Row W Bn #[.int .i64 m0] 3)
    (hY : ∀ pre x w1, J pre w1 → pre.length < (Qt.ups ns m0).length → YieldAt F (n - 1) Try.prog l #[.int .i64 x] w1 fun e w' =>
      (e = .returned (.bool true) ∧ J (pre ++ [x]) w' ∧ Kb B w1 w') ∨ (e = .returned (.bool false) ∧ Jx (pre ++ [x]) w'))
    (h0 : J [] W) :
    CallsIn F n Try.prog 62 #[.func (.yield l) #[] #[], .pointer (some ⟨Bn, 0, none⟩), .pointer (some ⟨Bc, 0, none⟩)] W fun e w' => (∃ v, e = .returned v) ∧
      ((∃ ys, ys = Qt.ups ns m0 ∧ J ys w') ∨ (∃ pre, pre <+: Qt.ups ns m0 ∧ Jx pre w')) := by
  have hro := hF.ro
  have hfa := hF.all
  have hm0 : W.cell? ⟨Bn, 0, none⟩ = some (.int .i64 m0) := hbn.at_ 0
  refine callsIn_of_wp Try.func62 rfl (hF.all _) ?_ hF.ro
  simp only [Try.ntmps62, List.size_toArray, List.length_cons, List.length_nil, Nat.reduceAdd, Nat.reduceSub, Array.replicate_succ, Array.replicate_zero, List.push_toArray, List.append_toArray, List.nil_append, List.cons_append]
  gi_wp2
  gi_loopw [4] (fun i wr => ∃ (m : Int) (pre : List Int), i = .int .i64 m ∧ Qt.ups ns m0 = pre ++ Qt.ups ns m ∧ J pre wr ∧ Kb B W wr)
    (fun i _ => (intOf i + 1).toNat)
  case atStart => exact ⟨m0, [], rfl, rfl, h0, Kb.refl _ _⟩
  case round =>
    obtain ⟨m, pre, rfl, hx, hJs, hk⟩ := hrel
    have hcr := hk.row hc hoc.1 hoc.2
    have k0 : wr.cell? ⟨Bc, 0, none⟩ = some (.slice an ns.length cn) := hcr.at_ 0
    have k1 : wr.cell? ⟨Bc, 1, none⟩ = some (.slice ah hl ch) := hcr.at_ 1
    have k2 : wr.cell? ⟨Bc, 2, none⟩ = some (.int .i64 ha) := hcr.at_ 2
    have k3 : wr.cell? ⟨Bc, 3, none⟩ = some (.int .i64 ag) := hcr.at_ 3
    have hlt : Bc < wr.heap.size := hcr.lt
    gi_wp2_with fail
    refine (hF.lift (qIsNode (.slice an ns.length cn) (.slice ah hl ch) ns an cn ha ag m ah hl ch wr)).mono ?_
    rintro er w1 ⟨rfl, b1⟩
    have hJ1 : J pre w1 := hJ pre wr w1 none hJs (grown_of_below b1) (fun r e => by cases e)
    have hk1 : Kb B W w1 := hk.trans (Kb.of_below (Nat.lt_of_lt_of_le hB hk.size) b1)
    by_cases hin : 0 ≤ m ∧ m < ns.length
    · have hi : Qt.isIn ns m = true := decide_eq_true hin
      rw [hi]
      have hups := Qt.ups_in hin
      have hxl : (Qt.ups ns m0).length = pre.length + (Qt.ups ns m).length := by rw [hx, List.length_append]
      obtain ⟨fn, tmps, assign, body, hy, hR⟩ := hY pre m w1 hJ1 (by rw [hxl, hups, List.length_cons]; omega)
      clear hi
      gi_wp2_with fail
      refine hR.mono ?_
      rintro e w3 (⟨rfl, hJ3, hk3⟩ | ⟨rfl, hJx3⟩)
      · have hk4 : Kb B W w3 := hk1.trans hk3
        have hc3 := hk4.row hc hoc.1 hoc.2
        have j0 : w3.cell? ⟨Bc, 0, none⟩ = some (.slice an ns.length cn) := hc3.at_ 0
        have j1 : w3.cell? ⟨Bc, 1, none⟩ = some (.slice ah hl ch) := hc3.at_ 1
        have j2 : w3.cell? ⟨Bc, 2, none⟩ = some (.int .i64 ha) := hc3.at_ 2
        have j3 : w3.cell? ⟨Bc, 3, none⟩ = some (.int .i64 ag) := hc3.at_ 3
        gi_wp2_with fail
        refine (hF.lift (qParent ns an cn nb no ha ag m ah hl ch w3 (hN.kb hk4 hob) hin)).mono ?_
        rintro er w4 ⟨rfl, b4⟩
        have hJ4 := hJ (pre ++ [m]) w3 w4 none hJ3 (grown_of_below b4) (fun r e => by cases e)
        have hk5 := hk4.trans (Kb.of_below (Nat.lt_of_lt_of_le hB hk4.size) b4)
        have hul := Qt.up_less ns m hin.1
        obtain ⟨u, hu⟩ : ∃ u, Qt.up ns m = u := ⟨_, rfl⟩
        rw [hu] at hul hups ⊢
        gi_wp2_with fail
        go_roundw
        case rel => exact ⟨u, pre ++ [m], rfl, by rw [hx, hups]; simp, hJ4, hk5⟩
        case measure => simp [intOf]; omega
      · gi_wp2
        refine bodyPost_ret (results_none rfl _ _ _) rfl ?_
        exact ⟨⟨_, rfl⟩, .inr ⟨pre ++ [m], ⟨Qt.ups ns (Qt.up ns m), by rw [hx, hups]; simp⟩, hJx3⟩⟩
    · have hi : Qt.isIn ns m = false := decide_eq_false hin
      rw [hi]
      gi_wp2
      go_end0
      exact ⟨⟨_, rfl⟩, .inl ⟨pre, by rw [hx, Qt.ups_out hin, List.append_nil], hJ1⟩⟩

end Go.Proofs.Ytkaikekibmgmmaa
namespace Go.Proofs.Ytkaikekibmgmmaa
open Go Go.RowKit Go.Shelf
set_option linter.unusedVariables false
attribute [local go_sem] Oper.semAt_some

/-- An append by an equation of its own, in a round. -/
theorem wpListIn_append_by {F : Fence} {n : Nat} {P : Program} {w : World} {ops : Array Oper} {rest : List Oper} {o : Oper} {a : Act} {Q : Exit → Act → World → Prop} (hgd : o.guard = none) (s x : Operand) (t tx : TypeId)
    (ho : o.op = .call { callee := .builtin .append, args := #[s, x], argTypes := #[t, tx] }) (vs vx v' : Value) (w' : World) (hs : a.eval s = vs) (hx : a.eval x = vx) (hr : (Builtin.append_ #[t, tx] o.type #[vs, vx]).run P w = .ok v' w')
    (h : wpListIn F n P ops Q rest (a.put o.dst v') w') : wpListIn F n P ops Q (o :: rest) a w := by
  refine wpListIn_plain hgd fun K hK' => ?_
  unfold Oper.wpIn
  refine ⟨?_, ?_⟩
  · simp [Oper.about, ho, resolve, Target.leads, Sem.run_pure]
  · rw [Oper.semAt_plain F _ _ (by rw [ho]; intro c hc'; cases hc')]
    simp [execOp, ho, resolve, invoke, builtin, hs, hx, hr, Result.andThen]
    exact hK' _ _ h

/-- A number appended: the row lies where it lay, or in a new block. -/
theorem int_append_to (w : World) (base : Nat) (v : Value) (l : List Int) (x : Int) (hl : l.length ≤ 1000) (g : Nat) (hown : w.ownsRow base 3 1 v l.length (cellsOf iC l)) (hg : Row w g #[.int .i64 x] 3) (hb : base ≤ w.heap.size) :
    ∃ v' w', (Builtin.append_ #[68, 68] 68 #[v, .slice (some ⟨g, 0, none⟩) 1 1]).run Try.prog w = .ok v' w' ∧ w'.ownsRow base 3 1 v' (l ++ [x]).length (cellsOf iC (l ++ [x])) ∧ w.grownBy w' v.ownBlock ∧ (v'.ownBlock = v.ownBlock ∨ ∀ k, v'.ownBlock = some k → w.heap.size ≤ k) := by
  obtain ⟨v', w', h1, h2, h3⟩ := int_append w base v l x hl g hown hg hb
  refine ⟨v', w', h1, h2, h3, ?_⟩
  obtain ⟨i0, hi, hz0, hz1, hz2⟩ := info_parts int_info
  have hnews : ∀ j u, (iC x).toList[j]? = some u → w.cell? ((⟨g, 0, none⟩ : Addr).add j) = some u := fun j u hu => by
    rw [Addr.add_mid, Nat.zero_add, hg.at_]
    simpa [iC] using hu
  rcases hown.2 with ⟨rfl, hn⟩ | ⟨q, cap, cur, rfl, hbq, hq, hnc, hm, hs, ht⟩
  · right
    have hl0 : l = [] := List.eq_nil_of_length_eq_zero hn
    subst hl0
    obtain ⟨v2, w2, e1, e2, e3⟩ := int_append w w.heap.size (.slice none 0 0) [] x (by simp) g (World.ownsRow_nil _ _ _ _) hg (Nat.le_refl _)
    rw [h1] at e1
    cases e1
    exact fun k hk => (e2.lt k hk).1
  · by_cases hr : l.length + 1 ≤ cap
    · left
      obtain ⟨w2, e1, _⟩ := run_append_fits (P := Try.prog) w base 68 68 3 i0 1 Try.underlying68 hi hz1 q l.length cap (cellsOf iC l) hown ⟨g, 0, none⟩ 1 1 (iC x).toList rfl hnews (iC_one x) hr
      rw [h1] at e1
      cases e1
      rfl
    · right
      have e1 := run_append_grow (P := Try.prog) w 68 68 3 i0 _ Try.underlying68 hi hz0 ⟨q, 0, none⟩ l.length cap (cellsOf iC l) (by rw [hz1]; exact hown.1) (hown.cells (g := q) rfl) ⟨g, 0, none⟩ 1 1 (iC x).toList (by rw [hz1]; rfl) hnews (by omega) (by omega) (growslice_fits (by omega) (by rw [hz2]; omega))
      rw [h1] at e1
      cases e1
      intro k hk
      cases hk
      exact Nat.le_refl _

/-- All that a round owes that appends a number to the row that the block B points to. -/
theorem collected {w w1 : World} {n₀ B : Nat} {T : TypeId} {v v' : Value} {l l' : List Int} {tmp : Obj} (hv : Boxed w B T v) (hT : T ≠ 3) (hrow : w.ownsRow n₀ 3 1 v l.length (cellsOf iC l)) (hn₀ : n₀ ≤ w.heap.size) (hB : n₀ ≤ B)
    (hown : w1.ownsRow n₀ 3 1 v' l'.length (cellsOf iC l')) (hgrow : (w.alloc tmp).grownBy w1 v.ownBlock) (hto : v'.ownBlock = v.ownBlock ∨ ∀ k, v'.ownBlock = some k → (w.alloc tmp).heap.size ≤ k) :
    Boxed w1 B T v ∧ Boxed (w1.setCell ⟨B, 0, none⟩ v') B T v' ∧ (w1.setCell ⟨B, 0, none⟩ v').ownsRow n₀ 3 1 v' l'.length (cellsOf iC l') ∧ KeepsOthers w (w1.setCell ⟨B, 0, none⟩ v') ∧ Below n₀ w (w1.setCell ⟨B, 0, none⟩ v') ∧ Kb B w (w1.setCell ⟨B, 0, none⟩ v') := by
  obtain ⟨a1, a2, a3, a4, a5⟩ := Boxed.appended hv hT hrow hn₀ hB hown hgrow
  refine ⟨a1, a2, a3, a4, a5, ⟨a5.os, a5.tape, a5.output, a5.size, fun k o hk ho hne hvk => ?_, fun u hu => ?_⟩⟩
  · have hlt := (Array.getElem?_eq_some_iff.1 hk).1
    rw [Below.heap_setCell w1 ⟨B, 0, none⟩ v' k hne, hgrow.block k (by rw [World.size_alloc]; omega) (fun e => hvk v hv.cell e.symm), Below.heap_alloc w tmp k hlt]
    exact hk
  · rw [a2.cell] at hu
    cases hu
    rcases hto with e | e
    · exact .inl ⟨v, hv.cell, e.symm⟩
    · exact .inr fun k hk => by have := e k hk; rw [World.size_alloc] at this; omega

/-- Behind slices.Reverse but one block stands as it was. -/
theorem put_but (w : World) (g : Nat) (n : Nat) (d : Array Int) : But g w (Sort.putRow (Value.int .i64) (Sort.ahead w n) g 0 d) :=
  ⟨rfl, rfl, rfl, by rw [Sort.size_putRow]; exact Nat.le_refl _, fun k _ hk => by
    show (Array.modify w.heap g _)[k]? = _
    rw [Array.getElem?_modify, if_neg (by omega)]⟩

theorem Sl.but {α : Type} {enc : α → Array Value} {T : TypeId} {k : Nat} {w w' : World} {ao : Option Addr} {cap bb oo b : Nat} {l : List α} (h : Sl enc T k w ao cap bb oo l) (g : But b w w') (hb : 0 < l.length → bb ≠ b) : Sl enc T k w' ao cap bb oo l :=
  ⟨h.small, fun h0 => Nat.lt_of_lt_of_le (h.lt h0) g.size, h.idx, fun i x hi j v hj => by
    have hl : i < l.length := by
      rcases Nat.lt_or_ge i l.length with q | q
      · exact q
      · rw [List.getElem?_eq_none q] at hi; cases hi
    exact (World.cell?_of_block (g.block bb (h.lt (by omega)) (hb (by omega)))).trans (h.at_ i x hi j v hj)⟩
theorem but_putObj (w : World) (D : Nat) (o : Obj) : But D w (w.putObj D o) := by
  have g := grownBy_putObj' w D o
  exact ⟨g.os, g.tape, g.output, g.size, fun k hk hb => g.block k hk (fun e => hb (by cases e; rfl))⟩

/-- A row of numbers that is one's own, turned about in its place. -/
theorem reverse_own (w : World) (base : Nat) (v : Value) (l : List Int) (hl : l.length ≤ 1000) (hown : w.ownsRow base 3 1 v l.length (cellsOf iC l)) :
    ∃ ao len cap bb, v = .slice ao len cap ∧ len = l.length ∧ Calls Try.prog 60 #[.slice ao len cap] w fun e w' => e = .returned (.tuple #[]) ∧ Sl iC 68 1 w' ao cap bb 0 l.reverse ∧ ((w' = w) ∨ (base ≤ bb ∧ v.ownBlock = some bb ∧ But bb w w' ∧ ∃ cs t fr, w.heap[bb]? = some (.cells cs t fr))) := by
  rcases hown.2 with ⟨rfl, hn⟩ | ⟨g, cap, cur, rfl, hb, hg, hnc, hm, hs, ht⟩
  · have : l = [] := List.eq_nil_of_length_eq_zero hn
    subst this
    exact ⟨none, 0, 0, 0, rfl, rfl, (Try.slices_Reverse_int_empty none 0 w).mono fun e w' ⟨h1, h2⟩ => ⟨h1, by subst h2; exact Sl.nil _ _ _ _, .inl h2⟩⟩
  · have hat : ∀ j, j < l.length → w.cell? ⟨g, 0 + j, none⟩ = some (.int .i64 l.toArray[j]!) ∧ w.frozen? ⟨g, 0 + j, none⟩ = false := fun j hj => by
      refine ⟨?_, by rw [frozen_of_row _ _ _ _ _ hg]⟩
      obtain ⟨x, hx⟩ : ∃ x, l[j]? = some x := ⟨_, List.getElem?_eq_getElem hj⟩
      have hc := cellsOf_at iC 1 (fun _ => rfl) l j x 0 _ hx rfl
      rw [← ht, Nat.mul_one, Nat.add_zero, List.getElem?_take_of_lt (by omega)] at hc
      rw [Nat.zero_add, cell_of_row _ _ _ _ _ _ hg]
      have e : l.toArray[j]! = x := by simp [hx]
      rw [e]
      simpa using hc
    have hH : Sort.Holds (Value.int .i64) w g 0 l.toArray := fun j hj => hat j (by simpa using hj)
    refine ⟨some ⟨g, 0, none⟩, l.length, cap, g, rfl, rfl, (Try.slices_Reverse_int g 0 cap l w hH (by omega)).mono ?_⟩
    rintro e w' ⟨rfl, n, rfl⟩
    refine ⟨rfl, ⟨by rw [List.length_reverse]; omega, fun _ => by rw [Sort.size_putRow]; exact lt_of_block hg, fun i hi w0 => by rw [List.length_reverse]; exact int_index g l.length cap i (by rw [List.length_reverse] at hi; exact hi) w0, fun i x hx j u hu => ?_⟩, .inr ⟨hb, rfl, put_but w g n _, _, _, _, hg⟩⟩
    have hi : i < l.length := by
      rcases Nat.lt_or_ge i l.reverse.length with q | q
      · rw [List.length_reverse] at q; exact q
      · rw [List.getElem?_eq_none q] at hx; cases hx
    have hH' : Sort.Holds (Value.int .i64) (Sort.ahead w n) g 0 l.toArray := hH
    have hc := Sort.cell?_putRow (Value.int .i64) (Sort.ahead w n) g 0 l.toArray l.reverse.toArray hH' (by simp) i (by simpa using hi)
    have e : l.reverse.toArray[i]! = x := by simp [hx]
    rw [e] at hc
    have hj : j = 0 := by
      rcases j with _ | j
      · rfl
      · simp [iC] at hu
    subst hj
    have : u = .int .i64 x := by simpa [iC] using hu.symm
    subst this
    rw [Nat.mul_one, Nat.add_zero]
    exact hc

end Go.Proofs.Ytkaikekibmgmmaa
namespace Go.Proofs.Ytkaikekibmgmmaa
open Go Go.RowKit Go.Shelf
set_option linter.unusedVariables false
attribute [local go_sem] Oper.semAt_some

theorem qUp_stops (F : Fence) (hF : Wd F) (n : Nat) (hn : 1 ≤ n) (B Bc Bn : Nat) (ns : List Nd) (an : Option Addr) (cn nb no : Nat) (ah : Option Addr) (hl ch : Nat) (ha ag m0 : Int) (w : World)
    (hB : B < w.heap.size) (hob : ns.length > 0 → Off B nb w) (hoc : Off B Bc w) (hN : Sl Nd.c 22 11 w an cn nb no ns) (hc : Row w Bc #[.slice an ns.length cn, .slice ah hl ch, .int .i64 ha, .int .i64 ag] 25) (hbn : Row w Bn #[.int .i64 m0] 3) :
    SeqStopsK F n Try.prog 62 #[.pointer (some ⟨Bn, 0, none⟩), .pointer (some ⟨Bc, 0, none⟩)] (fun x : Int => #[Value.int .i64 x]) (Kb B) (fun ys => ys = Qt.ups ns m0) (fun pre => pre <+: Qt.ups ns m0) (Qt.ups ns m0).length w := fun l J Jx W hW hJ _ hY h0 =>
  qUp1 F hF n hn l B Bc Bn ns an cn nb no ah hl ch ha ag m0 J Jx W hJ (Nat.lt_of_lt_of_le hB hW.size) (fun h => (hob h).below hB hW) (hoc.below hB hW) (hN.kept hW) (hc.under hW) (hbn.under hW) hY h0

set_option maxRecDepth 100000 in
set_option maxHeartbeats 2000000 in
theorem qPath_in (F : Fence) (hF : Wd F) (n : Nat) (hn : 4 ≤ n) (ns : List Nd) (an : Option Addr) (cn nb no : Nat) (ah : Option Addr) (hl ch : Nat) (ha ag m0 : Int) (w : World) (hN : Sl Nd.c 22 11 w an cn nb no ns) (h300 : ns.length ≤ 300) :
    CallsIn F n Try.prog 45 #[.agg #[.slice an ns.length cn, .slice ah hl ch, .int .i64 ha, .int .i64 ag], .int .i64 m0] w fun e w' => ∃ (ao : Option Addr) (cap bb : Nat), e = .returned (.slice ao (Qt.path ns m0).length cap) ∧ Sl iC 68 1 w' ao cap bb 0 (Qt.path ns m0) ∧ Below w.heap.size w w' := by
  have hro := hF.ro
  have hfa := hF.all
  have h1 : 1 ≤ n := by omega
  have hpu := Qt.path_ups ns m0
  have hul := Qt.ups_len ns m0
  refine callsIn_of_wp_marks Try.func45 rfl (hfa _) ?_ hro
  simp only [Try.ntmps45, List.size_toArray, List.length_cons, List.length_nil, Nat.reduceAdd, Nat.reduceSub, Array.replicate_succ, Array.replicate_zero, List.push_toArray, List.append_toArray, List.nil_append, List.cons_append]
  gi_wp2_with fail
  refine (hF.lift (qUpward an ns.length cn ah hl ch ha ag m0 _)).mono ?_
  rintro er w4 ⟨rfl, rfl⟩
  have c0 := Boxed.new (w.alloc (.cells #[.slice an ns.length cn, .slice ah hl ch, .int .i64 ha, .int .i64 ag] 25)) 68 (.slice none 0 0)
  have c1 := Row.new ((w.alloc (.cells #[.slice an ns.length cn, .slice ah hl ch, .int .i64 ha, .int .i64 ag] 25)).alloc (.cells #[.slice none 0 0] 68)) #[.slice an ns.length cn, .slice ah hl ch, .int .i64 ha, .int .i64 ag] 25
  have c2 := Row.new (((w.alloc (.cells #[.slice an ns.length cn, .slice ah hl ch, .int .i64 ha, .int .i64 ag] 25)).alloc (.cells #[.slice none 0 0] 68)).alloc (.cells #[.slice an ns.length cn, .slice ah hl ch, .int .i64 ha, .int .i64 ag] 25)) #[.int .i64 m0] 3
  have hB0 : Below w.heap.size w ((((w.alloc (.cells #[.slice an ns.length cn, .slice ah hl ch, .int .i64 ha, .int .i64 ag] 25)).alloc (.cells #[.slice none 0 0] 68)).alloc (.cells #[.slice an ns.length cn, .slice ah hl ch, .int .i64 ha, .int .i64 ag] 25)).alloc (.cells #[.int .i64 m0] 3)) := ((((Below.refl _ w).alloc (Nat.le_refl _) _).alloc (by simp) _).alloc (by simp; omega) _).alloc (by simp; omega) _
  have c0' := ((c0.alloc (.cells #[.slice an ns.length cn, .slice ah hl ch, .int .i64 ha, .int .i64 ag] 25)).alloc (.cells #[.int .i64 m0] 3))
  have c1' := c1.under ((Below.refl _ _).alloc (Nat.le_refl _) (.cells #[.int .i64 m0] 3))
  simp only [World.size_alloc] at c0' c1' c2
  obtain ⟨V, hV⟩ : ∃ V, ((((w.alloc (.cells #[.slice an ns.length cn, .slice ah hl ch, .int .i64 ha, .int .i64 ag] 25)).alloc (.cells #[.slice none 0 0] 68)).alloc (.cells #[.slice an ns.length cn, .slice ah hl ch, .int .i64 ha, .int .i64 ag] 25)).alloc (.cells #[.int .i64 m0] 3)) = V := ⟨_, rfl⟩
  have hVs : V.heap.size = w.heap.size + 4 := by rw [← hV]; simp
  simp only [World.size_alloc]
  rw [hV] at hB0 c0' c1' c2 ⊢
  clear hV c0 c1
  have hoff : ∀ k, k ≠ w.heap.size + 1 → Off (w.heap.size + 1) k V := fun k hk => ⟨hk, fun v hv => by rw [c0'.cell] at hv; cases hv; simp [Value.ownBlock]⟩
  gi_wp2_with fail
  refine wpIn_rangeFunc_ownG hro h1 (gf := 62) (lb := #[.pointer (some ⟨w.heap.size + 1 + 1 + 1, 0, none⟩), .pointer (some ⟨w.heap.size + 1 + 1, 0, none⟩)]) rfl (hfa _) (enters_of Try.func62 (by kernel_rfl) rfl)
    (qUp_stops F hF (n - 1) (by omega) (w.heap.size + 1) (w.heap.size + 1 + 1) (w.heap.size + 1 + 1 + 1) ns an cn nb no ah hl ch ha ag m0 V (by omega) (fun h => hoff nb (by have := hN.lt h; omega)) (hoff _ (by omega)) (hN.kept hB0) c1' c2)
    Kb.trans (Kb.putObj (by omega)) (Below.refl _ _) (fun _ => rfl)
    (fun pre W => (∃ v, Boxed W (w.heap.size + 1) 68 v ∧ W.ownsRow w.heap.size 3 1 v pre.length (cellsOf iC pre) ∧ True) ∧ Below w.heap.size w W)
    (fun _ _ _ => False)
    (OwnFrom.and (Own.from (holdsRow_own w.heap.size (w.heap.size + 1) 68 3 1 (fun pre => pre.length) (fun pre => cellsOf iC pre) (fun _ _ => True)) _) (ownFrom_below (Nat.le_refl _) (by omega)))
    (fun _ _ _ _ _ hs _ _ => hs)
    ⟨⟨_, c0', World.ownsRow_nil _ _ _ _, trivial⟩, hB0⟩
    ?a1 ?assign ?body ?done ?stop
  case assign =>
    intro l x W K hK
    gi_wp2
    exact hK
  case body =>
    rintro l pre x W ⟨⟨v, hv, hrow, _⟩, hB⟩ hlt
    have hc := hv.cell
    have hlt2 := hv.lt
    obtain ⟨v', w1, hrun, hown, hgrow, hto⟩ := int_append_to (W.alloc (.cells #[.int .i64 x] 3)) w.heap.size v pre x (by omega) W.heap.size (World.ownsRow.alloc hrow _) (Row.new W _ _) (by rw [World.size_alloc]; omega)
    obtain ⟨q1, q2, q3, q4, q5, q6⟩ := collected hv (by decide) hrow (by omega) (by omega) hown hgrow hto
    have hc1 := q1.cell
    have hf1 := q1.frozen
    obtain ⟨ao, ln, cp, rfl⟩ := own_form hrow
    obtain ⟨ao', ln', cp', rfl⟩ := own_form hown
    gi_wp2_with (gi_at_builtin; refine wpListIn_append_by rfl _ _ _ _ rfl _ _ _ _ rfl rfl hrun ?_)
    exact ⟨q4.from _, q6, ⟨⟨_, q2, q3, trivial⟩, hB.trans q5⟩⟩
  case done =>
    rintro D ys W hD rfl ⟨⟨v, hv, hrow, _⟩, hB⟩ hK
    have hc := hv.cell
    obtain ⟨ao, len, cap, bb, rfl, rfl, hcall⟩ := reverse_own W w.heap.size v (Qt.ups ns m0) (by omega) hrow
    have hnr := hv.not_row (by decide) hrow
    rw [← hpu] at hcall
    have hpl : (Qt.ups ns m0).length = (Qt.path ns m0).length := by rw [hpu, List.length_reverse]
    have HC := Lib.hid hcall; have HPL := Lib.hid hpl
    clear hcall hpl hpu
    gi_wp2_with fail
    refine (hF.lift HC.out).mono ?_
    rintro er w5 ⟨rfl, hsl, hw⟩
    have hall : w5.cell? ⟨w.heap.size + 1, 0, none⟩ = some (.slice ao (Qt.ups ns m0).length cap) ∧ w5.heap[D]? = some (.deferred (some [])) ∧ Below w.heap.size w w5 ∧ (0 < (Qt.path ns m0).length → bb ≠ D) := by
      rcases hw with rfl | ⟨e1, e2, e3, cs, t, fr, e4⟩
      · exact ⟨hc, hK, hB, fun h e => by
          have hlt := hsl.lt h
          obtain ⟨x, hx⟩ : ∃ x, (Qt.path ns m0)[0]? = some x := ⟨_, List.getElem?_eq_getElem h⟩
          have h1 := hsl.at_ 0 x hx 0 _ rfl
          rw [e] at h1
          simp [World.cell?, hK] at h1⟩
      · refine ⟨(World.cell?_of_block (e3.block _ hv.lt (fun e => hnr (by rw [e2]; exact congrArg some e)))).trans hc, (e3.block D (Array.getElem?_eq_some_iff.1 hK).1 (fun e => ?_)).trans hK, hB.trans (e3.below e1 hB.size), fun _ e => ?_⟩
        · rw [e, e4] at hK; cases hK
        · rw [← e, e4] at hK; cases hK
    obtain ⟨hc5, hK5, hB5, hbb⟩ := hall
    gi_wp2_with fail
    refine ⟨by simp, .inl ⟨_, _, rfl, run_takeDeferred hK5, ?_⟩⟩
    exact ⟨_, results_tmp rfl _ _ _, ao, cap, bb, by rw [HPL.out]; rfl, hsl.but (but_putObj w5 D _) hbb, hB5.trans (belowK_b (w := w) (Nat.le_refl _) w5 D _ _ (by omega) hK5 rfl rfl)⟩
  case stop =>
    rintro D c pre W _ _ h _
    exact h.elim

theorem qPath (ns : List Nd) (an : Option Addr) (cn nb no : Nat) (ah : Option Addr) (hl ch : Nat) (ha ag m0 : Int) (w : World) (hN : Sl Nd.c 22 11 w an cn nb no ns) (h300 : ns.length ≤ 300) :
    Calls Try.prog 45 #[.agg #[.slice an ns.length cn, .slice ah hl ch, .int .i64 ha, .int .i64 ag], .int .i64 m0] w fun e w' => ∃ (ao : Option Addr) (cap bb : Nat), e = .returned (.slice ao (Qt.path ns m0).length cap) ∧ Sl iC 68 1 w' ao cap bb 0 (Qt.path ns m0) ∧ Below w.heap.size w w' :=
  callsIn_wide.1 (qPath_in Fence.wide Wd.wide 4 (Nat.le_refl _) ns an cn nb no ah hl ch ha ag m0 w hN h300)

end Go.Proofs.Ytkaikekibmgmmaa
