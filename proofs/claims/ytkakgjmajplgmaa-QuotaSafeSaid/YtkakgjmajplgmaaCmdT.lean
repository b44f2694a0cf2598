/- Two configurations compared: the plain answer's Config. -/
import Derived.Test.YtkakgjmajplgmaaCmdI
namespace Go.Proofs.Ytkakgjmajplgmaa
open Go.RowKit
set_option linter.unusedVariables false

section
variable {P : Program} {ops : Array Oper} {C : World → Prop}
theorem quiet_index {Q : Act → Prop} {a : Act} {o : Oper} {rest : List Oper} (T : TypeId) (vx vi v : Value) (x i : Operand) (hC : ∀ w, (Instr.indexAt T vx vi).run P w = .ok v w) (ho : o.op = .indexAddr T x i) (hx : a.eval x = vx) (hi : a.eval i = vi)
    (hw : Region.wanted o (yielded ops a.tmps) = true) (h : wpQuiet P ops C Q rest (a.put o.dst v)) : wpQuiet P ops C Q (o :: rest) a := by
  unfold wpQuiet
  rw [if_pos hw]
  refine ⟨v, fun w hw' => ?_, h⟩
  unfold Oper.quietAt execOp
  simp only [ho, hx, hi, Sem.run_bind, hC w, Result.andThen_ok]
  exact ⟨rfl, rfl⟩
end

/-- A command in memory: its lists' values. -/
def CmAt (c : Cmd) (vn vh : Value) (w : World) : Prop := ∃ (an : Option Addr) (cn nb no : Nat) (ah : Option Addr) (ch hb ho : Nat), vn = .slice an c.nodes.length cn ∧ vh = .slice ah c.hosts.length ch ∧
  Sl Nd.c 22 11 w an cn nb no c.nodes ∧ Sl Hs.c 23 6 w ah ch hb ho c.hosts
theorem CmAt.kept {c : Cmd} {vn vh : Value} {w w' : World} (h : CmAt c vn vh w) (g : Below w.heap.size w w') : CmAt c vn vh w' := by
  obtain ⟨an, cn, nb, no, ah, ch, hb, ho, e1, e2, h1, h2⟩ := h
  exact ⟨an, cn, nb, no, ah, ch, hb, ho, e1, e2, h1.kept g, h2.kept g⟩
theorem CmAt.of_rows {c : Cmd} {vn vh : Value} {w : World} {A B : Nat} (h1 : w.ownsRow A 42 11 vn c.nodes.length (cellsOf Nd.c c.nodes)) (h2 : w.ownsRow B 62 6 vh c.hosts.length (cellsOf Hs.c c.hosts)) : CmAt c vn vh w := by
  obtain ⟨an, cn, nb, e1, s1⟩ := own_slice Nd.c 22 (k := 11) (fun x => rfl) h1 (fun b len cap i hi w0 => node_index b len cap i hi w0)
  obtain ⟨ah, ch, hb, e2, s2⟩ := own_slice Hs.c 23 (k := 6) (fun x => rfl) h2 (fun b len cap i hi w0 => host_index b len cap i hi w0)
  exact ⟨an, cn, nb, 0, ah, ch, hb, 0, e1, e2, s1, s2⟩
theorem CmAt.slices {c : Cmd} {vn vh : Value} {w : World} (h : CmAt c vn vh w) : ∃ an ln cn ah lh ch, vn = .slice an ln cn ∧ vh = .slice ah lh ch := by
  obtain ⟨an, cn, nb, no, ah, ch, hb, ho, rfl, rfl, h1, h2⟩ := h
  exact ⟨_, _, _, _, _, _, rfl, rfl⟩
theorem CmAt.none (c : Cmd) (w : World) (hn : c.nodes = []) (hh : c.hosts = []) : CmAt c (.slice none 0 0) (.slice none 0 0) w := by
  refine CmAt.of_rows (A := 0) (B := 0) ?_ ?_
  · rw [hn]; exact World.ownsRow_nil _ _ _ _
  · rw [hh]; exact World.ownsRow_nil _ _ _ _

/-- Two lists agree so far. -/
def Agree {α : Type} (l m : List α) (j : Int) : Prop := ∀ k : Nat, k < j.toNat → l[k]? = m[k]?
theorem Agree.zero {α : Type} (l m : List α) : Agree l m 0 := fun k hk => by simp at hk
theorem Agree.succ {α : Type} {l m : List α} {j : Int} (h : Agree l m j) (h0 : 0 ≤ j) (hx : l[j.toNat]? = m[j.toNat]?) : Agree l m (j + 1) := by
  intro k hk
  by_cases e : k = j.toNat
  · subst e; exact hx
  · exact h k (by omega)
theorem Agree.eq {α : Type} {l m : List α} {j : Int} (h : Agree l m j) (hl : (l.length : Int) ≤ j) (hm : l.length = m.length) : l = m := by
  apply List.ext_getElem? 
  intro k
  rcases Nat.lt_or_ge k l.length with q | q
  · exact h k (by omega)
  · rw [List.getElem?_eq_none q, List.getElem?_eq_none (by omega)]

def Cm.sameC (a b : Cmd) : Bool := decide (a.nodes = b.nodes) && decide (a.hosts = b.hosts) && decide (a.half = b.half) && decide (a.age = b.age)

end Go.Proofs.Ytkakgjmajplgmaa
