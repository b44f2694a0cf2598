/- A disk's methods: what writes. -/
import Derived.Test.YtcjpednhefeboaaDskC
namespace Go.Proofs.Ytcjpednhefeboaa
open Go.RowKit
set_option linter.unusedVariables false

section
variable {P : Program} {w : World}
/-- An append by an equation of its own. -/
theorem wpList_append_at {ops : Array Oper} {rest : List Oper} {o : Oper} {a : Act} {Q : Exit → Act → World → Prop} (hgd : o.guard = none) (s x : Operand) (t tx : TypeId)
    (ho : o.op = .call { callee := .builtin .append, args := #[s, x], argTypes := #[t, tx] }) (vs vx v' : Value) (w' : World) (hs : a.eval s = vs) (hx : a.eval x = vx) (hr : (Builtin.append_ #[t, tx] o.type #[vs, vx]).run P w = .ok v' w')
    (h : wpList P ops Q rest (a.put o.dst v') w') : wpList P ops Q (o :: rest) a w := by
  refine wpList_plain hgd fun K hK => ?_
  unfold Oper.wp execOp
  simp only [ho, resolve, invoke, builtin, Sem.run_bind, Sem.run_pure, Result.andThen_ok, List.map_toArray, List.map_cons, List.map_nil, hs, hx, hr]
  exact hK _ _ h
end

/-- A disk's own four cells. -/
structure Four (w : World) (D : Nat) (v0 v1 v2 v3 : Value) : Prop where
  c0 : w.cell? ⟨D, 0, none⟩ = some v0
  c1 : w.cell? ⟨D, 1, none⟩ = some v1
  c2 : w.cell? ⟨D, 2, none⟩ = some v2
  c3 : w.cell? ⟨D, 3, none⟩ = some v3
  f1 : w.frozen? ⟨D, 1, none⟩ = false
  f2 : w.frozen? ⟨D, 2, none⟩ = false
  f3 : w.frozen? ⟨D, 3, none⟩ = false

section
variable {w : World} {D : Nat} {v0 v1 v2 v3 : Value}
theorem Four.s1 (h : Four w D v0 v1 v2 v3) (v : Value) : Four (w.setCell ⟨D, 1, none⟩ v) D v0 v v2 v3 :=
  ⟨(World.cell?_setCell_other _ _ _ _ (by simp)).trans h.c0, World.cell?_setCell_same _ _ _ h.c1, (World.cell?_setCell_other _ _ _ _ (by simp)).trans h.c2, (World.cell?_setCell_other _ _ _ _ (by simp)).trans h.c3, by simpa using h.f1, by simpa using h.f2, by simpa using h.f3⟩
theorem Four.s2 (h : Four w D v0 v1 v2 v3) (v : Value) : Four (w.setCell ⟨D, 2, none⟩ v) D v0 v1 v v3 :=
  ⟨(World.cell?_setCell_other _ _ _ _ (by simp)).trans h.c0, (World.cell?_setCell_other _ _ _ _ (by simp)).trans h.c1, World.cell?_setCell_same _ _ _ h.c2, (World.cell?_setCell_other _ _ _ _ (by simp)).trans h.c3, by simpa using h.f1, by simpa using h.f2, by simpa using h.f3⟩
theorem Four.s3 (h : Four w D v0 v1 v2 v3) (v : Value) : Four (w.setCell ⟨D, 3, none⟩ v) D v0 v1 v2 v :=
  ⟨(World.cell?_setCell_other _ _ _ _ (by simp)).trans h.c0, (World.cell?_setCell_other _ _ _ _ (by simp)).trans h.c1, (World.cell?_setCell_other _ _ _ _ (by simp)).trans h.c2, World.cell?_setCell_same _ _ _ h.c3, by simpa using h.f1, by simpa using h.f2, by simpa using h.f3⟩
theorem Four.block {w' : World} (h : Four w D v0 v1 v2 v3) (e : w'.heap[D]? = w.heap[D]?) : Four w' D v0 v1 v2 v3 := by
  have ec : ∀ j, w'.cell? ⟨D, j, none⟩ = w.cell? ⟨D, j, none⟩ := fun j => World.cell?_of_block (w := w) e
  have ef : ∀ j, w'.frozen? ⟨D, j, none⟩ = w.frozen? ⟨D, j, none⟩ := fun j => World.frozen?_of_block (w := w) e
  exact ⟨(ec _).trans h.c0, (ec _).trans h.c1, (ec _).trans h.c2, (ec _).trans h.c3, (ef _).trans h.f1, (ef _).trans h.f2, (ef _).trans h.f3⟩
end

theorem At.four {w : World} {F : Nat → Prop} {D : Nat} {d : Dk} (h : At w F D d) : ∃ sa sc aa ac, Four w D (.int .i64 (d.size : Int)) (.slice sa d.S.length sc) (.slice aa d.A.length ac) (.bool d.repl) ∧ (¬ F D ∧ ∀ k, F k → k < w.heap.size) ∧ Row w F sa sc d.S ∧ Row w F aa ac d.A ∧ (∀ b, sa = some ⟨b, 0, none⟩ → b ≠ D) ∧ (∀ b, aa = some ⟨b, 0, none⟩ → b ≠ D) ∧
    (∀ a, sa = some a → aa = some a → d.S.length ≤ d.A.length) ∧ d.Good := by
  obtain ⟨sa, sc, aa, ac, ⟨c0, c1, c2, c3⟩, ⟨f1, f2, f3⟩, r⟩ := h
  exact ⟨sa, sc, aa, ac, ⟨c0, c1, c2, c3, f1, f2, f3⟩, r⟩
theorem at_of {w0 w : World} {F : Nat → Prop} {D : Nat} {d : Dk} {sa aa : Option Addr} {sc ac sl al : Nat} (h : Four w D (.int .i64 (d.size : Int)) (.slice sa sl sc) (.slice aa al ac) (.bool d.repl)) (e1 : sl = d.S.length) (e2 : al = d.A.length) (hB : ¬ F D ∧ ∀ k, F k → k < w0.heap.size) (r1 : Row w F sa sc d.S) (r2 : Row w F aa ac d.A) (n1 : ∀ b, sa = some ⟨b, 0, none⟩ → b ≠ D) (n2 : ∀ b, aa = some ⟨b, 0, none⟩ → b ≠ D)
    (sh : ∀ a, sa = some a → aa = some a → d.S.length ≤ d.A.length) (g : d.Good) (hk : Keeps F w0 w) : At w F D d ∧ Keeps F w0 w := by
  subst e1 e2
  exact ⟨⟨sa, sc, aa, ac, ⟨h.c0, h.c1, h.c2, h.c3⟩, ⟨h.f1, h.f2, h.f3⟩, ⟨hB.1, fun k q => Nat.lt_of_lt_of_le (hB.2 k q) hk.size⟩, r1, r2, n1, n2, sh, g⟩, hk⟩

/-- Behind a call that gives nothing: the disk's state; the blocks of F are as they were. -/
def Leaves (F : Nat → Prop) (D : Nat) (d : Dk) (w : World) (e : Ending) (w' : World) : Prop := e = .returned (.tuple #[]) ∧ At w' F D d ∧ Keeps F w w'
/-- Behind a call that gives a value. -/
def Gives (v : Value) (F : Nat → Prop) (D : Nat) (d : Dk) (w : World) (e : Ending) (w' : World) : Prop := e = .returned v ∧ At w' F D d ∧ Keeps F w w'

theorem settle_less {w : World} {F : Nat → Prop} {D : Nat} {d : Dk} (h : At w F D d) (n : Nat) (hn : n < d.A.length) :
    Calls Try.prog 36 #[.pointer (some ⟨D, 0, none⟩), .int .i64 (n : Int)] w (Leaves F D (d.settle n) w) := by
  obtain ⟨sa, sc, aa, ac, Q, hB, r1, r2, n1, n2, sh, hg⟩ := h.four
  have hA := hg.aLe; have hz := hg.sz
  have hcut := fun w0 => row_cut r2 n (by omega) w0
  have c1 := Q.c1; have c2 := Q.c2; have c3 := Q.c3; have f1 := Q.f1; have f2 := Q.f2; have f3 := Q.f3
  have HG := Lib.hid hg; have HR := Lib.hid (And.intro r1 r2); have HN := Lib.hid (And.intro n1 n2); have HF := Lib.hid Q
  clear hg r1 r2 n1 n2 sh Q h
  go_enter Try.func36, Try.ntmps36
  go_wp2_with fail
  go_end0
  have r2' := (HR.out.2.cut (n := n) (by omega))
  have hl : n = (d.A.take n).length := by rw [List.length_take]; omega
  refine ⟨rfl, at_of (((HF.out.s1 _).s3 _).s2 _) hl hl hB ?_ ?_ HN.out.2 HN.out.2 (fun _ _ _ => Nat.le_refl _) (HG.out.settle n) ((((Keeps.refl F w).setCell (p := ⟨D, 1, none⟩) hB.1 _).setCell (p := ⟨D, 3, none⟩) hB.1 _).setCell (p := ⟨D, 2, none⟩) hB.1 _)⟩
  · exact ((r2'.store HN.out.2).store HN.out.2).store HN.out.2
  · exact ((r2'.store HN.out.2).store HN.out.2).store HN.out.2

theorem settle_all {w : World} {F : Nat → Prop} {D : Nat} {d : Dk} (h : At w F D d) (n : Nat) (hn : n = d.A.length) :
    Calls Try.prog 36 #[.pointer (some ⟨D, 0, none⟩), .int .i64 (n : Int)] w (Leaves F D (d.settle n) w) := by
  subst hn
  obtain ⟨sa, sc, aa, ac, Q, hB, r1, r2, n1, n2, sh, hg⟩ := h.four
  have hA := hg.aLe; have hz := hg.sz
  have hcut := fun w0 => row_cut r2 d.A.length (Nat.le_refl _) w0
  have c1 := Q.c1; have c2 := Q.c2; have c3 := Q.c3; have f1 := Q.f1; have f2 := Q.f2; have f3 := Q.f3
  have HG := Lib.hid hg; have HR := Lib.hid (And.intro r1 r2); have HN := Lib.hid (And.intro n1 n2); have HF := Lib.hid Q
  clear hg r1 r2 n1 n2 sh Q h
  go_enter Try.func36, Try.ntmps36
  go_wp2_with fail
  go_end0
  have r2' := (HR.out.2.cut (n := d.A.length) (by omega))
  have e : d.A.take d.A.length = d.A := List.take_length
  have r2 := HR.out.2
  refine ⟨rfl, at_of ((HF.out.s1 _).s3 _) (congrArg List.length e).symm (congrArg List.length e).symm hB ?_ ?_ HN.out.2 HN.out.2 (fun _ _ _ => Nat.le_refl _) (HG.out.settle _) (((Keeps.refl F w).setCell (p := ⟨D, 1, none⟩) hB.1 _).setCell (p := ⟨D, 3, none⟩) hB.1 _)⟩
  · exact (r2'.store HN.out.2).store HN.out.2
  · rw [← e] at r2
    exact (r2.store HN.out.2).store HN.out.2

theorem settle_any {w : World} {F : Nat → Prop} {D : Nat} {d : Dk} (h : At w F D d) (n : Nat) (hn : n ≤ d.A.length) :
    Calls Try.prog 36 #[.pointer (some ⟨D, 0, none⟩), .int .i64 (n : Int)] w (Leaves F D (d.settle n) w) := by
  rcases Nat.lt_or_ge n d.A.length with h1 | h1
  · exact settle_less h n h1
  · exact settle_all h n (by omega)

theorem Sync_any {w : World} {F : Nat → Prop} {D : Nat} {d : Dk} (h : At w F D d) :
    Calls Try.prog 17 #[.pointer (some ⟨D, 0, none⟩)] w (Leaves F D d.sync w) := by
  have hc := settle_any h d.A.length (Nat.le_refl _)
  obtain ⟨sa, sc, aa, ac, Q, hB, r1, r2, n1, n2, sh, hg⟩ := h.four
  have c2 := Q.c2
  have HC := Lib.hid hc
  clear hc Q r1 r2 n1 n2 sh hg h
  go_enter Try.func17, Try.ntmps17
  go_wp2_with fail
  refine HC.out.mono ?_
  rintro e w1 ⟨rfl, g⟩
  have G := Lib.hid g; clear g
  go_wp2_with fail
  go_end0
  exact ⟨rfl, G.out⟩

theorem Write_no {w : World} {F : Nat → Prop} {D : Nat} {d : Dk} (h : At w F D d) (s : ByteArray) (hs : d.free < s.size) :
    Calls Try.prog 15 #[.pointer (some ⟨D, 0, none⟩), .string s] w (Gives (.int .i64 9) F D d w) := by
  have hf := Free_any h
  have H := Lib.hid h; have HC := Lib.hid hf
  clear h hf
  go_enter Try.func15, Try.ntmps15
  go_wp2_with fail
  refine HC.out.mono ?_
  rintro e w1 ⟨rfl, n, rfl⟩
  go_wp2_with fail
  go_ret
  exact ⟨rfl, H.out, (Keeps.refl _ _).drewN n⟩

theorem Write_yes {w : World} {F : Nat → Prop} {D : Nat} {d : Dk} (h : At w F D d) (s : ByteArray) (hs : s.size ≤ d.free) :
    Calls Try.prog 15 #[.pointer (some ⟨D, 0, none⟩), .string s] w (Gives (.int .i64 0) F D (d.put s) w) := by
  have hf := Free_any h
  have hlt := h.lt; have hbase := h.base
  have hgw := h
  obtain ⟨sa, sc, aa, ac, Q, hB, r1, r2, n1, n2, sh, hg⟩ := h.four
  have hA := hg.aLe; have hz := hg.sz
  have hput := fun n => row_put (w := w.drewN n) r2 hbase s (by unfold Dk.free at hs; omega)
  have c2 := Q.c2
  have HC := Lib.hid hf; have HP := Lib.hid hput
  have HG := Lib.hid hg; have HR := Lib.hid r1; have HN := Lib.hid (And.intro n1 n2); have HF := Lib.hid Q; have HS := Lib.hid sh
  clear hg r1 r2 n1 n2 sh Q h hf hput hgw
  go_enter Try.func15, Try.ntmps15
  go_wp2_with fail
  refine HC.out.mono ?_
  rintro e w1 ⟨rfl, n, rfl⟩
  obtain ⟨ao', cap', w2, hrun, hp⟩ := HP.out n
  obtain ⟨q1, q2, q3, q4, q5⟩ := hp
  have eD : w2.heap[D]? = w.heap[D]? := q3 D hlt (fun e => HN.out.2 D e rfl)
  have F2 := HF.out.block eD
  have c2' := F2.c2; have f2' := F2.f2
  have Q := Lib.hid (And.intro q1 (And.intro q2 (And.intro q4 q5))); have HF2 := Lib.hid F2
  clear q1 q2 q3 q4 q5 eD F2
  go_wp2_with (at_builtin; refine wpList_append_at rfl _ _ _ _ rfl _ _ _ _ rfl rfl hrun ?_)
  go_ret
  obtain ⟨q1, q2, q4, q5⟩ := Q.out
  have hq := q5 sa sc d.S HR.out HS.out
  have hne : ∀ b, ao' = some ⟨b, 0, none⟩ → b ≠ D := fun b e => by
    rcases q4 b e with h | h
    · exact HN.out.2 b h
    · have : w.heap.size ≤ b := h
      omega
  refine ⟨rfl, at_of (HF2.out.s2 _) rfl (by simp only [Dk.put, List.length_append, Dk.len_data]) hB (hq.1.store HN.out.1) (q1.store hne) HN.out.1 hne (fun a e1 e2 => ?_) ?_ (((Keeps.refl F w).drewN n).trans (q2.setCell (p := ⟨D, 2, none⟩) hB.1 _))⟩
  · have := hq.2 a e1 e2
    simp only [Dk.put, List.length_append]; omega
  · have := HG.out.write s
    unfold Dk.write at this
    rwa [if_neg (by omega)] at this

end Go.Proofs.Ytcjpednhefeboaa
