/- Tail Still Quiet Below Str Num Cell NumR NumS NumT: joined. -/
import Derived.Deep.Quiet
import Derived.StillTail
import Derived.Test.YtkaikekibmgmmaaBase
import Derived.Deep.QuietTactic
import Derived.BigQuiet
import Derived.StillTailTactics
import Derived.LoopTactic
import Derived.OneCell
import Derived.Deep.RegionHeld3
import Derived.Deep.MidRow
import Derived.Great.BuildSlice
import Derived.Below
import Derived.ProofKit
import Derived.OpenShut
import Derived.ScopeJumps
import Derived.WalkMore
import Derived.Laws.IdiomStrings
import Derived.Deep.WholeRow
namespace Go.Proofs.Ytkaikekibmgmmaa
open Go
set_option linter.unusedVariables false
section
variable {P : Program} {ops : Array Oper} {md : Region.Mode} {C : World → Prop}

/-- The first n operations in whatever order; then L. -/
def Heads (P : Program) (md : Region.Mode) (ops : Array Oper) (C : World → Prop) (n : Nat) (L : Array Bool → Act → Prop) : Nat → Array Bool → Act → Prop
  | 0, seen, a => L seen a
  | f + 1, seen, a => Region.ready md ops seen ≠ [] ∧ ∀ i ∈ Region.ready md ops seen, i < n ∧ qOp P ops C i (Heads P md ops C n L f (seen.setIfInBounds i true)) a

theorem Heads.wpAny {n g : Nat} {L : Array Bool → Act → Prop} {R : Exit → Act → World → Prop} (hL : ∀ seen a w, C w → L seen a → wpAny P md ops R g seen a w) :
    ∀ (f : Nat) (seen : Array Bool) (a : Act) (w : World), C w → Heads P md ops C n L f seen a → wpAny P md ops R (f + g) seen a w := by
  intro f
  induction f with
  | zero => intro seen a w hw h; rw [Nat.zero_add]; exact hL _ _ _ hw h
  | succ f ih =>
    intro seen a w hw h
    rw [Nat.add_right_comm]
    exact ⟨fun h0 => absurd h0 h.1, fun i hi => wpOp_of_qOp hw (fun a' w' hw' h' => ih _ a' w' hw' h') (h.2 i hi).2⟩

theorem Heads.first {n i : Nat} {oi : Oper} {v : Value} {L : Array Bool → Act → Prop} (hi : ops[i]? = some oi) (hsel : ∀ (j : Nat) (o : Oper) cs b, ops[j]? = some o → o.op ≠ .select cs b)
    (hs : Region.sinkB md ops n = true) (hc : Region.chainB md ops n = true) (hn : n < ops.size) (hin : i < n) (hdone : ∀ seen a, L seen a → ∀ j ∈ Region.ready md ops seen, n ≤ j) :
    ∀ (f : Nat) (seen : Array Bool) (a : Act), HeadInv md ops n seen →
      (∀ j oj, ops[j]? = some oj → j ≠ i → seen.getD j true = false → (∀ e ∈ oj.after, Region.binds md e = true → e.on ≠ i) → oi.apart ops oj = true) →
      i ∈ Region.ready md ops seen → YieldsIn P ops C oi v a → Heads P md ops C n L f (seen.setIfInBounds i true) (a.put oi.dst v) → Heads P md ops C n L (f + 1) seen a := by
  intro f
  induction f with
  | zero =>
    intro seen a inv hfree hr hy H
    refine ⟨List.ne_nil_of_mem hr, fun j hj => ?_⟩
    have hjn : j < n := Nat.lt_of_not_le fun h => tail_waits hs hc hn inv _ i rfl hin (mem_ready.1 hr).1 j h hj
    by_cases e : j = i
    · subst e; exact ⟨hjn, hy.qOp hi H⟩
    · exact absurd (hdone _ _ H j (ready_mono hj e)) (by omega)
  | succ f ih =>
    intro seen a inv hfree hr hy H
    refine ⟨List.ne_nil_of_mem hr, fun j hj => ?_⟩
    have hjn : j < n := Nat.lt_of_not_le fun h => tail_waits hs hc hn inv _ i rfl hin (mem_ready.1 hr).1 j h hj
    by_cases e : j = i
    · subst e; exact ⟨hjn, hy.qOp hi H⟩
    obtain ⟨hun, oj, hoj, hall⟩ := mem_ready.1 hj
    have hno : ∀ x ∈ oj.after, Region.binds md x = true → x.on ≠ i := fun x hx hb q => by
      have := hall x hx hb
      rw [q, getD_both (mem_ready.1 hr).1] at this
      cases this
    refine ⟨hjn, qOp_mono (fun b hb => ?_) (qOp_put hoj (hfree j oj hoj e hun hno) (fun cs b => hsel i oi cs b hi) (fun cs b => hsel j oj cs b hoj) hy (H.2 j (ready_mono hj e)).2)⟩
    refine ih _ b (inv.set hj hjn) (fun k ok hk hki hku => hfree k ok hk hki ?_) (ready_mono hr (Ne.symm e)) hb.1 (by rw [Array.setIfInBounds_comm _ _ e]; exact hb.2)
    by_cases q : j = k
    · subst q; exact hun
    · rwa [getD_set_ne true q] at hku

theorem Heads.lex {n g : Nat} {L : Act → Prop} (hsel : Region.noSelect ops = true) (hs : Region.sinkB md ops n = true) (hc : Region.chainB md ops n = true) (hn : n < ops.size) :
    ∀ (l : List Oper) (k : Nat) (seen : Array Bool) (a : Act), (∀ j, j < l.length → l[j]? = ops[k + j]?) → k + l.length = n → HeadInv md ops n seen →
    Region.lexHead md ops g l.length k seen = true → wpQuiet P ops C L l a → Heads P md ops C n (fun s b => Region.seqB md ops g n s = true ∧ L b) l.length seen a := by
  intro l
  induction l with
  | nil =>
    intro k seen a _ hk _ hB h
    obtain rfl : k = n := hk
    exact ⟨hB, h⟩
  | cons o l ih =>
    intro k seen a hl hk inv hB h
    have h0 : ops[k]? = some o := by simpa using (hl 0 (by simp)).symm
    simp only [List.length_cons, Region.lexHead, Bool.and_eq_true] at hB
    have hkn : k < n := by simp only [List.length_cons] at hk; omega
    have hr : k ∈ Region.ready md ops seen := by simpa using hB.1.1
    have hst : qOp P ops C k (wpQuiet P ops C L l) a := by unfold qOp; simp only [h0]; exact h
    obtain ⟨v, hy, hK⟩ := yieldsIn_of_qOp h0 hst
    refine Heads.first h0 (Region.noSelect_spec hsel) hs hc hn hkn (fun s b hL => seqB_ready hL.1) l.length seen a inv (Region.free_spec h0 hB.1.2) hr hy ?_
    refine ih (k + 1) _ _ (fun j hj => ?_) (by simp only [List.length_cons] at hk; omega) (inv.set hr hkn) hB.2 hK
    have := hl (j + 1) (by simp; omega)
    simpa [Nat.add_assoc, Nat.add_comm 1 j] using this

theorem region_quiet_tail {id : Nat} {Q : Exit → Act → World → Prop} {a : Act} {w : World} {l : List Oper} (n : Nat) (C : World → Prop) (hm : P.follows .mixedOrders = true) (hB : Region.lexTailB .any l.toArray n = true) (hC : C { w with drawn := w.drawn + 1 })
    (h : wpQuiet P l.toArray C (fun a' => ∀ w', C w' → wpList P l.toArray Q (l.drop n) a' w') (l.take n) a) : (Code.region id l.toArray true).wp P Q a w := by
  simp only [Region.lexTailB, Bool.and_eq_true, decide_eq_true_eq] at hB
  obtain ⟨⟨⟨⟨hsel, hn⟩, hs⟩, hc⟩, hlex⟩ := hB
  have hn' : n < l.length := by simpa using hn
  have htl : (l.take n).length = n := by simp; omega
  have hdl : (l.drop n).length = l.toArray.size - n := by simp
  have inv0 : HeadInv .any l.toArray n (Array.replicate l.toArray.size false) :=
    ⟨by simp, fun j oj _ hl => (by rw [getD_replicate_false] at hl; cases hl), fun t _ ht => getD_in (by simpa using ht) (getD_replicate_false _ _)⟩
  have hl0 : ∀ j, j < (l.take n).length → (l.take n)[j]? = l.toArray[0 + j]? := fun j hj => by
    have : j < n := by omega
    simp [this]
  have H := Heads.lex (md := .any) (C := C) (g := l.toArray.size - n) hsel hs hc hn (l.take n) 0 _ a hl0 (by simpa using htl) inv0 (by rw [htl]; exact hlex) h
  refine wp_region_any hm ?_
  have := Heads.wpAny (R := Q) (g := l.toArray.size - n) (fun s b w' hw' hL => by
    have := wpAny_of_seq (md := .any) (Q' := Q) (l.drop n) n s b w' (fun j => by simp [List.getElem?_drop]) (by rw [hdl]; exact hL.1) (hL.2 w' hw')
    rwa [hdl] at this) _ _ _ _ hC H
  rwa [htl, show n + (l.toArray.size - n) = l.toArray.size by omega] at this
end
end Go.Proofs.Ytkaikekibmgmmaa
namespace Go.Proofs.Ytkaikekibmgmmaa
open Go.RowKit
set_option linter.unusedVariables false

section
variable {P : Program} {ops : Array Oper} {w : World} {Q : Act → Prop} {a : Act} {o : Oper} {rest : List Oper}
theorem still_skip (hw : Region.wanted o (yielded ops a.tmps) = false) (h : wpStill P ops w Q rest (a.put o.dst undef)) : wpStill P ops w Q (o :: rest) a := by
  unfold wpStill; rw [if_neg (by rw [hw]; exact Bool.false_ne_true)]; exact h
end

theorem still_of {P : Program} {f : FuncId} {args : Array Value} {w : World} {v : Value} (h : Calls P f args w fun e w' => e = .returned v ∧ w = w') : Calls P f args w fun e w'' => e = .returned v ∧ w'' = w := h.mono fun _ _ h => ⟨h.1, h.2.symm⟩

/-- A value is returned; new blocks may have come, nothing that was there has turned. -/
def RetGrown (v : Value) (w : World) (e : Ending) (w' : World) : Prop := e = .returned v ∧ Grown w w'

theorem retGrown_u64 {a b : Int} {w : World} {e : Ending} {w' : World} (h : a = b) (he : e = .returned (.int .u64 a)) (hw : Grown w w') : RetGrown (.int .u64 b) w e w' := by
  subst h; exact ⟨he, hw⟩

theorem grown_drewN' {W w' : World} (h : Grown W w') (n : Nat) : Grown W (w'.drewN n) := h

theorem grown_trans {a b c : World} (h : Grown a b) (k : Grown b c) : Grown a c :=
  ⟨World.keptBut_trans h.1 k.1, fun x => (k.2.1 x).trans (h.2.1 x), Nat.le_trans h.2.2 k.2.2⟩

theorem quiet_left {P : Program} {f : FuncId} {args : Array Value} {w : World} {n : Nat} {v : Value}
    (h : Calls P f args (w.drewN n) fun e w' => e = .returned v ∧ w.drewN n = w') : Calls P f args (w.drewN n) fun e w'' => e = .returned v ∧ ∃ m, w'' = w.drewN m :=
  h.mono fun _ _ ⟨he, hm⟩ => ⟨he, n, hm.symm⟩

theorem grown_cell {w w' : World} (g : Grown w w') {b o : Nat} (h : b < w.heap.size) : w'.cell? ⟨b, o, none⟩ = w.cell? ⟨b, o, none⟩ :=
  World.cell?_of_block (w := w) (World.keptBut.block g.1 h (fun p f => f.elim))

theorem heap_second (w : World) (A B : Obj) (n g : Nat) (hg : w.heap.size = g) : (((w.alloc A).alloc B).drewN n).heap[g]? = some A := by
  subst hg
  exact heap_alloc2_old w A B

theorem ret_bool {a b : Bool} (h : a = b) : Ending.returned (.bool a) = .returned (.bool b) := by rw [h]

theorem heap_top (w : World) (A : Obj) (n g : Nat) (hg : w.heap.size = g) : ((w.alloc A).drewN n).heap[g]? = some A := by
  subst hg
  exact heap_alloc_new w A

theorem top_cell (V : World) (t n : Nat) (v : Value) : ((V.alloc (.cells #[v] t)).drewN n).cell? ⟨V.heap.size, 0, none⟩ = some v := World.cell?_alloc_at (w := V) #[v] t _ 0 rfl
theorem top_free (V : World) (c : Array Value) (t n r : Nat) : ((V.alloc (.cells c t)).drewN n).frozen? ⟨V.heap.size, r, none⟩ = false := World.frozen?_alloc_at (w := V) c t _ r rfl
theorem old_cell (V : World) (o : Obj) (n A r : Nat) (hA : A < V.heap.size) {v : Value} (h : V.cell? ⟨A, r, none⟩ = some v) : ((V.alloc o).drewN n).cell? ⟨A, r, none⟩ = some v := (World.cell?_alloc_past (w := V) o A r hA).trans h

/-- A store behind draws. -/
theorem setCell_drewN (w : World) (n : Nat) (a : Addr) (v : Value) : (w.drewN n).setCell a v = (w.setCell a v).drewN n := rfl

/-- A rest of what was turned into a number without a sign. -/
theorem uMod (a m : Int) (m0 : 0 < m) : ∃ r, (IntKind.u64.wrap a).tmod m = r ∧ 0 ≤ r ∧ r < m := by
  have h0 : 0 ≤ IntKind.u64.wrap a := by rw [IntKind.wrap_u64]; omega
  exact ⟨_, rfl, by rw [Int.tmod_eq_emod_of_nonneg h0]; exact Int.emod_nonneg _ (by omega), by rw [Int.tmod_eq_emod_of_nonneg h0]; exact Int.emod_lt_of_pos _ m0⟩

end Go.Proofs.Ytkaikekibmgmmaa
namespace Go.Proofs.Ytkaikekibmgmmaa
open Go.RowKit
set_option linter.unusedVariables false

section
variable {P : Program} {ops : Array Oper} {C : World → Prop}
theorem region_quiet {id : Nat} {Q : Exit → Act → World → Prop} {a : Act} {w : World} {l : List Oper} (C : World → Prop) (hm : P.follows .mixedOrders = true) (hB : Region.lexB .any l.toArray = true) (hC : C w.drew)
    (h : wpQuiet P l.toArray C (fun a' => ∀ w', C w' → Q .normal a' w') l a) : (Code.region id l.toArray true).wp P Q a w :=
  wp_region_quiet (C := C) hm hB hC (by simpa using h)

/-- An array or a struct is read out of a variable of which every world of the class has the same cells. -/
theorem quiet_row {Q : Act → Prop} {a : Act} {o : Oper} {rest : List Oper} (b : Nat) (cs : Array Value) (ty : TypeId) (d : TypeDesc) (x : Operand) (hC : ∀ w, C w → ∃ t fr, w.heap[b]? = some (.cells cs t fr)) (ho : o.op = .load ty x) (hx : a.eval x = .pointer (some ⟨b, 0, none⟩))
    (hw : Region.wanted o (yielded ops a.tmps) = true) (hu : P.underlying ty = some d) (hd : (match d with | .struct _ | .array _ _ => true | _ => false) = true) (hi : (P.info? ty).map (·.size) = some cs.size)
    (h : wpQuiet P ops C Q rest (a.put o.dst (.agg cs))) : wpQuiet P ops C Q (o :: rest) a := by
  unfold wpQuiet
  rw [if_pos hw]
  refine ⟨.agg cs, fun w hw' => ?_, h⟩
  obtain ⟨t, fr, hg⟩ := hC w hw'
  unfold Oper.quietAt execOp
  simp only [ho, hx, Instr.loadAt, Instr.sureAddr, Sem.run_bind, Sem.run_pure, Result.andThen_ok, run_loadVar_row w b t ty cs fr d hg hu hd hi]
  exact ⟨rfl, rfl⟩

/-- Two values are compared, or reckoned with, by a law that holds in every world. -/
theorem quiet_bin {Q : Act → Prop} {a : Act} {o : Oper} {rest : List Oper} (op : BinOp) (ty ty' : TypeId) (x y : Operand) (vx vy r : Value) (ho : o.op = .binOp op ty x y ty') (hx : a.eval x = vx) (hy : a.eval y = vy) (hr : ∀ w, (binOp op ty vx vy).run P w = .ok r w) (hg : ∀ w, (eqGuard op ty x y vx vy).run P w = .ok () w)
    (hw : Region.wanted o (yielded ops a.tmps) = true) (h : wpQuiet P ops C Q rest (a.put o.dst r)) : wpQuiet P ops C Q (o :: rest) a := by
  unfold wpQuiet
  rw [if_pos hw]
  refine ⟨r, fun w hw' => ?_, h⟩
  unfold Oper.quietAt execOp
  simp only [ho, hx, hy, Sem.run_bind, Sem.run_pure, Result.andThen_ok, hg, hr]
  exact ⟨rfl, rfl⟩
end

theorem grown_block {w w' : World} (g : Grown w w') {b : Nat} (h : b < w.heap.size) : w'.heap[b]? = w.heap[b]? := World.keptBut.block g.1 h (fun p f => f.elim)

theorem row_cells {w w' : World} (g : Grown w w') {b : Nat} {o : Obj} (h : w.heap[b]? = some o) : w'.heap[b]? = some o := (grown_block g (lt_of_block h)).trans h

/-- A block that was there is there in every later world. -/
theorem grown_row {w : World} {b : Nat} {cs : Array Value} {t : TypeId} {fr : Nat × Nat} (h : w.heap[b]? = some (.cells cs t fr)) : ∀ w', Grown w w' → ∃ t fr, w'.heap[b]? = some (.cells cs t fr) := fun w' g => ⟨t, fr, (grown_block g (lt_of_block h)).trans h⟩

theorem quiet_grown {P : Program} {f : FuncId} {args : Array Value} {W w : World} {v : Value} (g : Grown W w) (h : Calls P f args w (RetGrown v w)) : Calls P f args w fun e w'' => e = .returned v ∧ Grown W w'' := h.mono fun _ _ h => ⟨h.1, grown_trans g h.2⟩

/-- Three numbers. -/
def tri (x y z : Int) : Nat → Int
  | 0 => x
  | 1 => y
  | _ => z

end Go.Proofs.Ytkaikekibmgmmaa
namespace Go.Proofs.Ytkaikekibmgmmaa
open Go.RowKit Go.WideShapes Go.ChangeShapes
set_option linter.unusedVariables false

/-- A value is returned; blocks may have come, frozen ones too; nothing that was there has turned. -/
def RetBelow (v : Value) (w : World) (e : Ending) (w' : World) : Prop := e = .returned v ∧ Below w.heap.size w w'

theorem below_trans {a b c : World} (h : Below a.heap.size a b) (k : Below b.heap.size b c) : Below a.heap.size a c := h.trans (k.mono h.size)
theorem below_drewN {B : Nat} {a w : World} (h : Below B a w) (n : Nat) : Below B a (w.drewN n) := ⟨h.os, h.tape, h.output, h.size, h.block⟩
theorem below_same {P : Program} {f : FuncId} {args : Array Value} {w : World} {v : Value} (h : Calls P f args w fun e w' => e = .returned v ∧ w = w') : Calls P f args w (RetBelow v w) :=
  h.mono fun _ _ ⟨he, hw⟩ => ⟨he, hw ▸ Below.refl _ _⟩
theorem below_drew {P : Program} {f : FuncId} {args : Array Value} {w : World} {v : Value} (h : Calls P f args w (RetDrew v w)) : Calls P f args w (RetBelow v w) :=
  h.mono fun _ _ ⟨he, n, hw⟩ => ⟨he, hw ▸ below_drewN (Below.refl _ _) n⟩
theorem quiet_below {P : Program} {f : FuncId} {args : Array Value} {W w : World} {v : Value} (g : Below W.heap.size W w) (h : Calls P f args w (RetBelow v w)) : Calls P f args w fun e w'' => e = .returned v ∧ Below W.heap.size W w'' :=
  h.mono fun _ _ h => ⟨h.1, below_trans g h.2⟩
theorem below_cell {w w' : World} (g : Below w.heap.size w w') {b o : Nat} {v : Value} (h : w.cell? ⟨b, o, none⟩ = some v) (hb : b < w.heap.size) : w'.cell? ⟨b, o, none⟩ = some v := (g.cell (p := ⟨b, o, none⟩) hb).trans h

/-- What the row asks behind a call that has turned nothing of what was there. -/
theorem post_below {H : Type} {enc : TypeId × Value → H} {P : Program} {f : Func} {s : ChangeSpec} {apart fresh handsOn again : Bool} {W W' : World} {args : Array Value} {v : Value} {ds gs : List (DataW H)} {before pa pv : List MemPlace}
    (hW : DataW.Whole enc P f.params.toList s.vars apart W args.toList ds gs before)
    (hr : ∀ (b : Nat) (sp : Nat → Bool) (hd : Bool), DataW.TrodAll enc P W' b sp hd f.resultTypes.toList (v.resultList f.resultTypes.size) (s.fn H (ds ++ gs)).results [])
    (ha : ∀ sp : Nat → Bool, (∀ p ∈ before, sp p.block = true) → DataW.TrodAll enc P W' 0 sp true f.params.toList args.toList (s.fn H (ds ++ gs)).args pa)
    (hv : ∀ sp : Nat → Bool, (∀ p ∈ before, sp p.block = true) → DataW.TrodVars enc P W' sp s.vars (s.fn H (ds ++ gs)).vars pv)
    (hp : before = pa ++ pv) (hb : Below W.heap.size W W')
    (hok : ∀ (j : Nat) (t : TypeId) (r : Value), f.resultTypes[j]? = some t → (v.resultList f.resultTypes.size)[j]? = some r → Value.okWide P W' .any 0 t r) :
    s.post enc P f apart fresh handsOn again W args v W' := by
  have hl : ∀ p ∈ before, p.block < W.heap.size := fun p h => hW.lt p h
  have ho : ∀ p ∈ before, (fun b => decide (b < W.heap.size)) p.block = true := fun p h => decide_eq_true (hl p h)
  have hsame := hW
  obtain ⟨_, _, _, _, _, hz, hn⟩ := hsame
  refine ⟨ds, gs, before, [], pa, pv, hW, hr _ _ _, ha _ ho, hv _ ho, World.keptBut_mono (fun p h => ⟨h, Or.inr (List.mem_append.1 (hp ▸ h))⟩) (hb.frame (· ∈ before)), fun _ => ⟨hok, _, _, ([] ++ pa) ++ pv, ⟨[] ++ pa, pv, trodAll_append (ha _ (fun _ _ => rfl)) (hr _ _ _), hv _ (fun _ _ => rfl), rfl, fun b off h => ?_, fun h => ?_⟩, fun p h _ => ?_⟩⟩
  · have hin : MemPlace.cell b off ∈ before := by rw [hp]; simpa using h
    rw [hb.frozen (hl _ hin)]
    exact hz b off hin
  · have := hn h
    rw [hp] at this
    simpa using this
  · rw [hp]
    simpa using h

end Go.Proofs.Ytkaikekibmgmmaa
namespace Go.Proofs.Ytkaikekibmgmmaa
open Go.RowKit
set_option linter.unusedVariables false

def Cr.bt (s : ByteArray) (k : Nat) : Nat := (s.data.toList.getD k 0).toNat
theorem Cr.bt_lt (s : ByteArray) (k : Nat) : Cr.bt s k < 256 := (s.data.toList.getD k 0).toNat_lt
theorem Cr.bt_get (s : ByteArray) (k : Nat) (h : k < s.size) : Cr.bt s k = s[k].toNat := by
  unfold Cr.bt
  rw [List.getD_eq_getElem?_getD, List.getElem?_eq_getElem (by simpa using h)]
  rfl
theorem index_at (s : ByteArray) (k : Nat) (h : k < s.size) (w : World) : (Instr.index 9 (.string s) (.int .i64 (k : Int))).run Try.prog w = .ok (.int .u8 ((Cr.bt s k : Nat) : Int)) w := by
  rw [run_index_string w 9 s .i64 k Try.underlying9, dif_pos ⟨by omega, by omega⟩, Cr.bt_get s k h]
  rfl

theorem ba_ext {a b : ByteArray} (h : a.data.toList = b.data.toList) : a = b := by
  apply ByteArray.ext
  exact Array.toList_inj.1 h
theorem ba_len (a : ByteArray) : a.data.toList.length = a.size := by simp
theorem ba_app (a b : ByteArray) : (a ++ b).data.toList = a.data.toList ++ b.data.toList := by simp [ByteArray.data_append]
theorem ba_cut (s : ByteArray) (a b : Nat) : (s.extract a b).data.toList = (s.data.toList.drop a).take (b - a) := by
  simp [ByteArray.data_extract]
theorem ba_from (s : ByteArray) (a : Nat) : (s.extract a s.size).data.toList = s.data.toList.drop a := by
  rw [ba_cut]
  exact List.take_of_length_le (by rw [List.length_drop, ba_len]; exact Nat.le_refl _)
theorem ba_size (l : List UInt8) : (⟨l.toArray⟩ : ByteArray).size = l.length := by simp [ByteArray.size]
theorem ba_self (a : ByteArray) : (⟨a.data.toList.toArray⟩ : ByteArray) = a := by apply ba_ext; simp
theorem ba_join (a b : List UInt8) : (⟨a.toArray⟩ : ByteArray) ++ ⟨b.toArray⟩ = ⟨(a ++ b).toArray⟩ := by apply ba_ext; rw [ba_app]
theorem ba_none (a : ByteArray) : (⟨#[]⟩ : ByteArray) ++ a = a := by apply ba_ext; rw [ba_app]; simp
theorem ba_cat (a b c : ByteArray) : a ++ b ++ c = a ++ (b ++ c) := by apply ba_ext; rw [ba_app, ba_app, ba_app, ba_app, List.append_assoc]
theorem ba_past (a b : ByteArray) : (a ++ b).extract a.size (a ++ b).size = b := by apply ba_ext; rw [ba_from, ba_app, ← ba_len, List.drop_left]

theorem str_from (s : ByteArray) (k : Nat) (h : k ≤ s.size) (w : World) : (Instr.slice 9 (.string s) (some (.int .i64 (k : Int))) none none).run Try.prog w = .ok (.string (s.extract k s.size)) w := by
  rw [run_slice_string_from_if w 9 s .i64 k Try.underlying9, if_pos ⟨by omega, by omega⟩]
  rfl
theorem str_to (s : ByteArray) (n : Nat) (h : n ≤ s.size) (w : World) : (Instr.slice 9 (.string s) none (some (.int .i64 (n : Int))) none).run Try.prog w = .ok (.string (s.extract 0 n)) w := by
  rw [run_slice_string_to_if w 9 _ .i64 _ Try.underlying9, if_pos ⟨by omega, by omega⟩]
  rfl

end Go.Proofs.Ytkaikekibmgmmaa
namespace Go.Proofs.Ytkaikekibmgmmaa
open Go.RowKit
set_option linter.unusedVariables false

namespace Nu
/-- A number's bytes. -/
def putL (n : Nat) : List UInt8 := if n < 128 then [UInt8.ofNat n] else UInt8.ofNat (128 + n % 128) :: putL (n / 128)
termination_by n
def put (n : Nat) : ByteArray := ⟨(putL n).toArray⟩
theorem putL_lt {n : Nat} (h : n < 128) : putL n = [UInt8.ofNat n] := by rw [putL, if_pos h]
theorem putL_ge {n : Nat} (h : 128 ≤ n) : putL n = UInt8.ofNat (128 + n % 128) :: putL (n / 128) := by rw [putL, if_neg (by omega)]
theorem putL_pos (n : Nat) : 1 ≤ (putL n).length := by rw [putL]; split <;> simp
theorem putL_len : ∀ (k n : Nat), n < 128 ^ k → (putL n).length ≤ max k 1
  | 0, n, h => by
    have : n = 0 := by omega
    subst this; rw [putL_lt (by omega)]; simp
  | k + 1, n, h => by
    rcases Nat.lt_or_ge n 128 with q | q
    · rw [putL_lt q]; simp
    · have : n / 128 < 128 ^ k := by rw [Nat.pow_succ] at h; omega
      have ih := putL_len k (n / 128) this
      have hk : 1 ≤ k := by
        rcases k with _ | k
        · simp at h; omega
        · omega
      rw [putL_ge q]
      simp only [List.length_cons]; omega
theorem putL_nine {n : Nat} (h : n < 9223372036854775808) : (putL n).length ≤ 9 := by
  have := putL_len 9 n (by have : (128 : Nat) ^ 9 = 9223372036854775808 := by decide
                           omega)
  omega

/-- What bytes begin with, from the i-th on: n is what was read. -/
def getL (i n : Nat) : List UInt8 → Nat × Nat × Int
  | [] => (0, 0, 10)
  | c :: r => if 9 ≤ i then (0, 0, 10) else if 128 ≤ c.toNat then getL (i + 1) (n + c.toNat % 128 * 128 ^ i) r else if c.toNat = 0 ∧ 0 < i then (0, 0, 10) else (n + c.toNat % 128 * 128 ^ i, i + 1, 0)
def get (s : ByteArray) : Nat × Nat × Int := getL 0 0 s.data.toList

theorem getL_back (r : List UInt8) : ∀ (L n i m : Nat), (putL n).length = L → i + L ≤ 9 → (i = 0 ∨ 0 < n) → getL i m (putL n ++ r) = (m + n * 128 ^ i, i + L, 0) := by
  intro L
  induction L with
  | zero => intro n i m h; have := putL_pos n; omega
  | succ L ih =>
    intro n i m h h9 h0
    rcases Nat.lt_or_ge n 128 with q | q
    · rw [putL_lt q] at h ⊢
      simp only [List.length_cons, List.length_nil] at h
      have e : (UInt8.ofNat n).toNat = n := by simp; omega
      have eL : L = 0 := by omega
      subst eL
      simp only [List.cons_append, List.nil_append, getL]
      rw [if_neg (by omega), e, if_neg (by omega), if_neg (by omega), Nat.mod_eq_of_lt q]
    · rw [putL_ge q] at h ⊢
      simp only [List.length_cons, Nat.add_right_cancel_iff] at h
      have e : (UInt8.ofNat (128 + n % 128)).toNat = 128 + n % 128 := by simp; omega
      simp only [List.cons_append, getL]
      rw [if_neg (by omega), e, if_pos (by omega), ih (n / 128) (i + 1) _ h (by omega) (.inr (by omega))]
      have e1 : (128 + n % 128) % 128 = n % 128 := by omega
      have e2 : n / 128 * 128 ^ (i + 1) = n / 128 * 128 * 128 ^ i := by rw [Nat.pow_succ, Nat.mul_assoc, Nat.mul_comm (128 ^ i)]
      have e3 : n * 128 ^ i = n % 128 * 128 ^ i + n / 128 * 128 * 128 ^ i := by rw [← Nat.add_mul]; congr 1; omega
      rw [e1, e2, e3]
      simp only [Prod.mk.injEq, and_true]
      omega
theorem getL_only : ∀ (l : List UInt8) (i m n k : Nat), getL i m l = (n, k, 0) → ∃ p, n = m + p * 128 ^ i ∧ i < k ∧ k ≤ 9 ∧ k - i ≤ l.length ∧ putL p = l.take (k - i) ∧ (i = 0 ∨ 0 < p) ∧ p < 128 ^ (9 - i)
  | [], i, m, n, k, h => by simp [getL] at h
  | c :: r, i, m, n, k, h => by
    rw [getL] at h
    have hc := c.toNat_lt
    split at h
    · simp at h
    rename_i h9
    split at h
    · rename_i h1
      obtain ⟨p, e1, e2, e3, e4, e5, e6, e7⟩ := getL_only r (i + 1) _ n k h
      have hp : 0 < p := by omega
      have ep : (c.toNat % 128 + 128 * p) % 128 = c.toNat % 128 ∧ (c.toNat % 128 + 128 * p) / 128 = p := by omega
      refine ⟨c.toNat % 128 + 128 * p, ?_, by omega, e3, by simp only [List.length_cons]; omega, ?_, .inr (by omega), ?_⟩
      · rw [e1, Nat.pow_succ, Nat.add_mul, Nat.mul_comm 128 p, Nat.mul_assoc p 128, Nat.mul_comm 128 (128 ^ i)]; omega
      · rw [putL_ge (by omega), ep.1, ep.2, e5, show k - i = (k - (i + 1)) + 1 by omega, List.take_succ_cons]
        congr 1
        rw [show 128 + c.toNat % 128 = c.toNat by omega]
        exact UInt8.ofNat_toNat
      · rw [show 9 - i = (9 - (i + 1)) + 1 by omega, Nat.pow_succ]; omega
    · rename_i h1
      split at h
      · simp at h
      · rename_i h2
        simp only [Prod.mk.injEq, and_true] at h
        obtain ⟨rfl, rfl⟩ := h
        refine ⟨c.toNat, by rw [Nat.mod_eq_of_lt (by omega)], by omega, by omega, by simp, ?_, by omega, ?_⟩
        · rw [putL_lt (by omega), show i + 1 - i = 1 by omega]
          simp
        · have : 128 ^ 1 ≤ 128 ^ (9 - i) := Nat.pow_le_pow_right (by decide) (by omega)
          omega
theorem getL_err : ∀ (l : List UInt8) (i m : Nat), (getL i m l).2.2 = 0 ∨ getL i m l = (0, 0, 10)
  | [], i, m => .inr rfl
  | c :: r, i, m => by
    rw [getL]
    split
    · exact .inr rfl
    split
    · exact getL_err r _ _
    split
    · exact .inr rfl
    · exact .inl rfl

theorem get_back (n : Nat) (h : n < 9223372036854775808) (s : ByteArray) : get (put n ++ s) = (n, (put n).size, 0) := by
  unfold get put
  rw [ba_app, ba_size]
  have := getL_back s.data.toList _ n 0 0 rfl (by have := putL_nine h; omega) (.inl rfl)
  simpa using this
theorem get_only {s : ByteArray} {n k : Nat} (h : get s = (n, k, 0)) : 1 ≤ k ∧ k ≤ 9 ∧ k ≤ s.size ∧ put n = s.extract 0 k ∧ n < 9223372036854775808 := by
  obtain ⟨p, e1, e2, e3, e4, e5, _, e7⟩ := getL_only _ 0 0 n k h
  have en : n = p := by simpa using e1
  subst en
  rw [ba_len] at e4
  refine ⟨by omega, e3, by omega, ?_, ?_⟩
  · apply ba_ext
    rw [ba_cut, List.drop_zero]
    simpa [put] using e5
  · have : (128 : Nat) ^ (9 - 0) = 9223372036854775808 := by decide
    omega
theorem get_err (s : ByteArray) : (get s).2.2 = 0 ∨ get s = (0, 0, 10) := getL_err _ _ _
theorem get_range (s : ByteArray) : (get s).1 < 9223372036854775808 ∧ (get s).2.1 ≤ 9 ∧ (get s).2.1 ≤ s.size := by
  rcases get_err s with h | h
  · obtain ⟨q, hq⟩ : ∃ q, get s = q := ⟨_, rfl⟩
    rw [hq] at h ⊢
    obtain ⟨n, k, e⟩ := q
    simp only at h
    subst h
    have := get_only hq
    exact ⟨this.2.2.2.2, this.2.1, this.2.2.1⟩
  · rw [h]; simp

/-- An amount's bytes; the amount that bytes begin with. -/
def putV (a b c : Nat) : ByteArray := put a ++ (put b ++ put c)
/-- Where the r-th number of some bytes begins; the number. -/
def seek (s : ByteArray) : Nat → Nat
  | 0 => 0
  | r + 1 => seek s r + (get (s.extract (seek s r) s.size)).2.1
def part (s : ByteArray) (r : Nat) : Nat × Nat × Int := get (s.extract (seek s r) s.size)
theorem seek_succ (s : ByteArray) (r : Nat) : seek s (r + 1) = seek s r + (part s r).2.1 := rfl
def getV (s : ByteArray) : (Nat × Nat × Nat) × Nat × Int :=
  if (part s 0).2.2 ≠ 0 ∨ (part s 1).2.2 ≠ 0 ∨ (part s 2).2.2 ≠ 0 then ((0, 0, 0), 0, 10) else (((part s 0).1, (part s 1).1, (part s 2).1), seek s 3, 0)
theorem put_size (n : Nat) (h : n < 9223372036854775808) : 1 ≤ (put n).size ∧ (put n).size ≤ 9 := by
  unfold put
  rw [ba_size]
  exact ⟨putL_pos n, putL_nine h⟩
theorem getV_back (a b c : Nat) (ha : a < 9223372036854775808) (hb : b < 9223372036854775808) (hc : c < 9223372036854775808) (s : ByteArray) : getV (putV a b c ++ s) = ((a, b, c), (putV a b c).size, 0) := by
  have e0 : putV a b c ++ s = put a ++ (put b ++ (put c ++ s)) := by unfold putV; rw [ba_cat, ba_cat]
  have g0 := get_back a ha (put b ++ (put c ++ s))
  have g1 := get_back b hb (put c ++ s)
  have g2 := get_back c hc s
  have x1 := ba_past (put a) (put b ++ (put c ++ s))
  have x2 := ba_past (put a ++ put b) (put c ++ s)
  rw [ByteArray.size_append, ba_cat] at x2
  have ez : (putV a b c).size = (put a).size + (put b).size + (put c).size := by unfold putV; rw [ByteArray.size_append, ByteArray.size_append]; omega
  have k0 : seek (putV a b c ++ s) 0 = 0 := rfl
  have q0 : part (putV a b c ++ s) 0 = (a, (put a).size, 0) := by
    unfold part; rw [k0, e0, show (put a ++ (put b ++ (put c ++ s))).extract 0 (put a ++ (put b ++ (put c ++ s))).size = put a ++ (put b ++ (put c ++ s)) by apply ba_ext; rw [ba_from, List.drop_zero]]; exact g0
  have k1 : seek (putV a b c ++ s) 1 = (put a).size := by
    rw [seek_succ _ 0, k0, q0, Nat.zero_add]
  have q1 : part (putV a b c ++ s) 1 = (b, (put b).size, 0) := by unfold part; rw [k1, e0, x1]; exact g1
  have k2 : seek (putV a b c ++ s) 2 = (put a).size + (put b).size := by
    rw [seek_succ _ 1, k1, q1]
  have q2 : part (putV a b c ++ s) 2 = (c, (put c).size, 0) := by unfold part; rw [k2, e0, x2]; exact g2
  have k3 : seek (putV a b c ++ s) 3 = (put a).size + (put b).size + (put c).size := by
    rw [seek_succ _ 2, k2, q2]
  unfold getV
  rw [q0, q1, q2, k3, ez]
  simp
theorem seek_le (s : ByteArray) : ∀ r, seek s r ≤ s.size ∧ seek s r ≤ r * 9
  | 0 => ⟨Nat.zero_le _, by simp [seek]⟩
  | r + 1 => by
    have ih := seek_le s r
    have h := get_range (s.extract (seek s r) s.size)
    have hz : (s.extract (seek s r) s.size).size = s.size - seek s r := by rw [ByteArray.size_extract]; omega
    rw [hz] at h
    show seek s r + _ ≤ _ ∧ seek s r + _ ≤ _
    omega

/-- A Fix's bytes. -/
def fixL (x : Nat) : List UInt8 := [UInt8.ofNat x, UInt8.ofNat (x / 256), UInt8.ofNat (x / 65536), UInt8.ofNat (x / 16777216), UInt8.ofNat (x / 4294967296), UInt8.ofNat (x / 1099511627776), UInt8.ofNat (x / 281474976710656), UInt8.ofNat (x / 72057594037927936)]
def fix (x : Nat) : ByteArray := ⟨(fixL x).toArray⟩
def unfix (s : ByteArray) : Nat := Cr.bt s 0 + 256 * Cr.bt s 1 + 65536 * Cr.bt s 2 + 16777216 * Cr.bt s 3 + 4294967296 * Cr.bt s 4 + 1099511627776 * Cr.bt s 5 + 281474976710656 * Cr.bt s 6 + 72057594037927936 * Cr.bt s 7
def getF (s : ByteArray) : Nat × Nat × Int := if s.size < 8 then (0, 0, 10) else (unfix s, 8, 0)
theorem fix_size (x : Nat) : (fix x).size = 8 := by unfold fix; rw [ba_size]; rfl
theorem unfix_lt (s : ByteArray) : unfix s < 18446744073709551616 := by
  have h0 := Cr.bt_lt s 0; have h1 := Cr.bt_lt s 1; have h2 := Cr.bt_lt s 2; have h3 := Cr.bt_lt s 3; have h4 := Cr.bt_lt s 4; have h5 := Cr.bt_lt s 5; have h6 := Cr.bt_lt s 6; have h7 := Cr.bt_lt s 7
  unfold unfix; omega
theorem bt_app (l : List UInt8) (s : ByteArray) (k : Nat) (h : k < l.length) : Cr.bt (⟨l.toArray⟩ ++ s) k = (l.getD k 0).toNat := by
  unfold Cr.bt
  rw [ba_app, List.getD_eq_getElem?_getD, List.getD_eq_getElem?_getD, List.getElem?_append_left (by simpa using h)]
theorem getF_back (x : Nat) (h : x < 18446744073709551616) (s : ByteArray) : getF (fix x ++ s) = (x, 8, 0) := by
  unfold getF
  rw [if_neg (by rw [ByteArray.size_append, fix_size]; omega)]
  have hb : ∀ k, k < 8 → Cr.bt (fix x ++ s) k = ((fixL x).getD k 0).toNat := fun k hk => bt_app _ _ _ hk
  unfold unfix
  rw [hb 0 (by decide), hb 1 (by decide), hb 2 (by decide), hb 3 (by decide), hb 4 (by decide), hb 5 (by decide), hb 6 (by decide), hb 7 (by decide)]
  simp only [fixL, List.getD_cons_zero, List.getD_cons_succ, UInt8.toNat_ofNat', Prod.mk.injEq, and_true]
  omega
end Nu

end Go.Proofs.Ytkaikekibmgmmaa
namespace Go.Proofs.Ytkaikekibmgmmaa
open Go.RowKit
set_option linter.unusedVariables false

section
variable {P : Program} {ops : Array Oper} {C : World → Prop}
theorem isAgg_not {t : TypeId} {d : TypeDesc} (h : P.underlying t = some d) (hd : d.isRow = false) (w : World) : (isAgg t).run P w = .ok false w := by
  cases d <;> simp_all [isAgg, run_underlying h, TypeDesc.isRow]
theorem load_plain {ty : TypeId} {d : TypeDesc} (hu : P.underlying ty = some d) (hd : d.isRow = false) {w : World} {p : Addr} {v : Value} (hc : w.cell? p = some v) :
    (Instr.loadAt ty (.pointer (some p))).run P w = .ok v w := by
  simp only [Instr.loadAt, Instr.sureAddr, Sem.run_bind, Sem.run_pure, Result.andThen_ok, loadVar, isAgg_not hu hd w]
  simp [run_load, hc]
theorem quiet_cell {Q : Act → Prop} {a : Act} {o : Oper} {rest : List Oper} (p : Addr) (v : Value) (ty : TypeId) (d : TypeDesc) (x : Operand) (hC : ∀ w, C w → w.cell? p = some v) (ho : o.op = .load ty x) (hx : a.eval x = .pointer (some p))
    (hw : Region.wanted o (yielded ops a.tmps) = true) (hu : P.underlying ty = some d) (hd : d.isRow = false)
    (h : wpQuiet P ops C Q rest (a.put o.dst v)) : wpQuiet P ops C Q (o :: rest) a := by
  unfold wpQuiet
  rw [if_pos hw]
  refine ⟨v, fun w hw' => ?_, h⟩
  unfold Oper.quietAt execOp
  simp only [ho, hx, Sem.run_bind, load_plain hu hd (hC w hw'), Result.andThen_ok]
  exact ⟨rfl, rfl⟩
end

end Go.Proofs.Ytkaikekibmgmmaa
namespace Go.Proofs.Ytkaikekibmgmmaa
open Go.RowKit
set_option linter.unusedVariables false

theorem put_go (t : ByteArray) (k : Nat) (h : 128 ≤ k) : t ++ Nu.put k = (t ++ ⟨#[UInt8.ofNat (128 + k % 128)]⟩) ++ Nu.put (k / 128) := by
  rw [ba_cat]
  congr 1
  unfold Nu.put
  rw [Nu.putL_ge h, show (⟨#[UInt8.ofNat (128 + k % 128)]⟩ : ByteArray) = ⟨[UInt8.ofNat (128 + k % 128)].toArray⟩ from rfl, ba_join]
  rfl
theorem put_end (t : ByteArray) (k : Nat) (h : k < 128) : t ++ Nu.put k = t ++ ⟨#[UInt8.ofNat k]⟩ := by
  unfold Nu.put
  rw [Nu.putL_lt h]

end Go.Proofs.Ytkaikekibmgmmaa
namespace Go.Proofs.Ytkaikekibmgmmaa
open Go.RowKit
set_option linter.unusedVariables false

def Nu.ans (r : Nat × Nat × Int) : Value := .tuple #[.int .i64 (r.1 : Int), .int .i64 (r.2.1 : Int), .int .i64 r.2.2]

theorem nu_pow : ∀ k : Nat, k < 9 → (2 : Int) ^ (7 * k) = 128 ^ k ∧ (128 : Int) ^ (k + 1) = 128 * 128 ^ k ∧ (1 : Int) ≤ 128 ^ k ∧ (128 : Int) ^ k ≤ 72057594037927936 := by decide
theorem nu_step {m j c : Int} (hj0 : 0 ≤ j) (hj : j < 9) (hm0 : 0 ≤ m) (hm : m < 128 ^ j.toNat) (hc0 : 0 ≤ c) (hc : c < 256) :
    wrap64 (m + wrap64 (c % 128 * 2 ^ (7 * j).toNat)) = m + c % 128 * 128 ^ j.toNat ∧ 0 ≤ m + c % 128 * 128 ^ j.toNat ∧ m + c % 128 * 128 ^ j.toNat < 128 ^ (j + 1).toNat ∧ m + c % 128 * 128 ^ j.toNat < 9223372036854775808 := by
  have hp := nu_pow j.toNat (by omega)
  have e7 : (7 * j).toNat = 7 * j.toNat := by omega
  have e1 : (j + 1).toNat = j.toNat + 1 := by omega
  rw [e7, e1, hp.1, hp.2.1]
  have p1 := hp.2.2.1; have p2 := hp.2.2.2
  clear hp
  obtain ⟨P, hP⟩ : ∃ P : Int, (128 : Int) ^ j.toNat = P := ⟨_, rfl⟩
  rw [hP] at p1 p2 hm ⊢
  have t0 : 0 ≤ c % 128 * P := Int.mul_nonneg (by omega) (by omega)
  have t1 : c % 128 * P ≤ 127 * P := Int.mul_le_mul_of_nonneg_right (by omega) (by omega)
  obtain ⟨t, ht⟩ : ∃ t, c % 128 * P = t := ⟨_, rfl⟩
  rw [ht] at t0 t1 ⊢
  have w1 : wrap64 t = t := by unfold wrap64; omega
  have w2 : wrap64 (m + t) = m + t := by unfold wrap64; omega
  rw [w1, w2]
  omega
theorem nu_more {s : ByteArray} {k : Nat} (hks : k < s.size) : s.data.toList.drop k = (s.data.toList.getD k 0) :: s.data.toList.drop (k + 1) := by
  rw [List.drop_eq_getElem_cons (by simpa using hks), List.getD_eq_getElem?_getD, List.getElem?_eq_getElem (by simpa using hks)]
  rfl
/-- One byte more. -/
theorem nu_byte {s : ByteArray} {j m c : Int} {q : Nat × Nat × Int} (hj0 : 0 ≤ j) (hj : j < 9) (hs : j < (s.size : Int)) (hm0 : 0 ≤ m) (hc : (Cr.bt s j.toNat : Int) = c) (h : Nu.getL j.toNat m.toNat (s.data.toList.drop j.toNat) = q) :
    (128 ≤ c → Nu.getL (j + 1).toNat (m + c % 128 * 128 ^ j.toNat).toNat (s.data.toList.drop (j + 1).toNat) = q) ∧ (c = 0 → 0 < j → q = (0, 0, 10)) ∧ (c < 128 → ¬ (c = 0 ∧ 0 < j) → q = ((m + c % 128 * 128 ^ j.toNat).toNat, (j + 1).toNat, 0)) := by
  obtain ⟨k, rfl⟩ : ∃ k : Nat, j = k := ⟨j.toNat, by omega⟩
  obtain ⟨n, rfl⟩ : ∃ k : Nat, m = k := ⟨m.toNat, by omega⟩
  subst hc
  have e1 : ((k : Int) + 1).toNat = k + 1 := by omega
  have e2 : ((n : Int) + ((Cr.bt s ((k : Int).toNat) : Nat) : Int) % 128 * 128 ^ ((k : Int).toNat)).toNat = n + Cr.bt s k % 128 * 128 ^ k := by
    have : (n : Int) + ((Cr.bt s ((k : Int).toNat) : Nat) : Int) % 128 * 128 ^ ((k : Int).toNat) = ((n + Cr.bt s k % 128 * 128 ^ k : Nat) : Int) := by
      rw [Int.toNat_natCast]; push_cast; rfl
    rw [this, Int.toNat_natCast]
  rw [e1, e2]
  simp only [Int.toNat_natCast] at h ⊢
  rw [nu_more (by omega), Nu.getL, if_neg (by omega)] at h
  change (if 128 ≤ Cr.bt s k then _ else if Cr.bt s k = 0 ∧ 0 < k then _ else _) = q at h
  refine ⟨fun hge => ?_, fun h0 hk => ?_, fun hlt hno => ?_⟩
  · rw [if_pos (by omega)] at h; exact h
  · rw [if_neg (by omega), if_pos (by omega)] at h; exact h.symm
  · rw [if_neg (by omega), if_neg (by omega)] at h; exact h.symm
theorem nu_none {s : ByteArray} {j m : Int} {q : Nat × Nat × Int} (hj0 : 0 ≤ j) (hs : 9 ≤ j ∨ (s.size : Int) ≤ j) (h : Nu.getL j.toNat m.toNat (s.data.toList.drop j.toNat) = q) : q = (0, 0, 10) := by
  rcases hd : s.data.toList.drop j.toNat with _ | ⟨c, r⟩
  · rw [hd] at h; exact h.symm
  · rcases hs with hs | hs
    · rw [hd, Nu.getL, if_pos (by omega)] at h; exact h.symm
    · have := congrArg List.length hd
      rw [List.length_drop, ba_len] at this
      simp only [List.length_cons] at this
      omega

theorem ans_of {x t j : Int} (hx : x = t) (ht : 0 ≤ t) (hj : 0 ≤ j) : Ending.returned (.tuple #[.int .i64 x, .int .i64 (j + 1), .int .i64 0]) = .returned (Nu.ans (t.toNat, (j + 1).toNat, 0)) := by
  subst hx
  unfold Nu.ans
  simp only
  rw [Int.toNat_of_nonneg ht, Int.toNat_of_nonneg (by omega)]

end Go.Proofs.Ytkaikekibmgmmaa
namespace Go.Proofs.Ytkaikekibmgmmaa
open Go.RowKit
set_option linter.unusedVariables false

theorem results_cell_two {P : Program} {fn : Func} {p u v : Tmp} {ty : TypeId} (h : fn.results = #[.cell p ty, .tmp u, .tmp v]) (tmps : Array Value) (w : World) (g : Nat) (t : TypeId) (cs : Array Value) (fr : Nat × Nat) (d : TypeDesc)
    (hp : tmps.getD p undef = .pointer (some ⟨g, 0, none⟩)) (hg : w.heap[g]? = some (.cells cs t fr))
    (hu : P.underlying ty = some d) (hd : (match d with | .struct _ | .array _ _ => true | _ => false) = true) (hi : (P.info? ty).map (·.size) = some cs.size) :
    (results fn tmps).run P w = .ok (.tuple #[.agg cs, tmps.getD u undef, tmps.getD v undef]) w := by
  have hp' : tmps[p]?.getD undef = .pointer (some ⟨g, 0, none⟩) := by simpa using hp
  simp [results, h, hp', asAddr, run_loadVar_row w g t ty cs fr d hg hu hd hi, Result.andThen]

/-- The first r numbers, then 0. -/
def Nu.till (s : ByteArray) (r i : Nat) : Int := if i < r then ((Nu.part s i).1 : Int) else 0
def Nu.row (s : ByteArray) (r : Nat) : Array Value := #[.int .i64 (Nu.till s r 0), .int .i64 (Nu.till s r 1), .int .i64 (Nu.till s r 2)]
theorem till_set (s : ByteArray) (r : Nat) (hr : r < 3) : (Nu.row s r).setIfInBounds r (.int .i64 ((Nu.part s r).1 : Int)) = Nu.row s (r + 1) := by
  have h : r = 0 ∨ r = 1 ∨ r = 2 := by omega
  rcases h with rfl | rfl | rfl <;> rfl
def Nu.ansV (r : (Nat × Nat × Nat) × Nat × Int) : Value := .tuple #[.agg #[.int .i64 (r.1.1 : Int), .int .i64 (r.1.2.1 : Int), .int .i64 (r.1.2.2 : Int)], .int .i64 (r.2.1 : Int), .int .i64 r.2.2]
theorem getV_yes {s : ByteArray} (h : ∀ i, i < 3 → (Nu.part s i).2.2 = 0) : Nu.getV s = (((Nu.part s 0).1, (Nu.part s 1).1, (Nu.part s 2).1), Nu.seek s 3, 0) := by
  unfold Nu.getV
  rw [if_neg (by simp [h 0 (by decide), h 1 (by decide), h 2 (by decide)])]
theorem getV_no {s : ByteArray} {r : Nat} (hr : r < 3) (h : (Nu.part s r).2.2 ≠ 0) : Nu.getV s = ((0, 0, 0), 0, 10) := by
  unfold Nu.getV
  rw [if_pos]
  have e : r = 0 ∨ r = 1 ∨ r = 2 := by omega
  rcases e with rfl | rfl | rfl
  · exact .inl h
  · exact .inr (.inl h)
  · exact .inr (.inr h)

/-- An amount is stored below the block that was made last. -/
theorem vec_there (w : World) (R : Array Value) : ((w.alloc (.cells #[.int .i64 0, .int .i64 0, .int .i64 0] 35)).alloc (.cells R 35)).there w.heap.size 0 3 := by
  have hh : ((w.alloc (.cells #[.int .i64 0, .int .i64 0, .int .i64 0] 35)).alloc (.cells R 35)).heap[w.heap.size]? = some (.cells #[.int .i64 0, .int .i64 0, .int .i64 0] 35 (0, 0)) := heap_second w _ _ 0 _ rfl
  intro j hj
  rw [cell_of_row _ _ _ _ _ _ hh, frozen_of_row _ _ _ _ _ hh]
  have h : j = 0 ∨ j = 1 ∨ j = 2 := by omega
  rcases h with rfl | rfl | rfl <;> exact ⟨rfl, rfl⟩
theorem vec_under (w : World) (R : Array Value) (x y z : Int) : (((w.alloc (.cells #[.int .i64 0, .int .i64 0, .int .i64 0] 35)).alloc (.cells R 35)).setCells w.heap.size 0 [.int .i64 x, .int .i64 y, .int .i64 z]).heap[w.heap.size]? = some (.cells #[.int .i64 x, .int .i64 y, .int .i64 z] 35 (0, 0)) ∧
    Below w.heap.size w (((w.alloc (.cells #[.int .i64 0, .int .i64 0, .int .i64 0] 35)).alloc (.cells R 35)).setCells w.heap.size 0 [.int .i64 x, .int .i64 y, .int .i64 z]) := by
  have hh : ((w.alloc (.cells #[.int .i64 0, .int .i64 0, .int .i64 0] 35)).alloc (.cells R 35)).heap[w.heap.size]? = some (.cells #[.int .i64 0, .int .i64 0, .int .i64 0] 35 (0, 0)) := heap_second w _ _ 0 _ rfl
  refine ⟨?_, ?_⟩
  · have h1 := heap_setCell_same _ w.heap.size 0 _ _ (.int .i64 x) hh
    have h2 := heap_setCell_same _ w.heap.size (0 + 1) _ _ (.int .i64 y) h1
    exact heap_setCell_same _ w.heap.size (0 + 1 + 1) _ _ (.int .i64 z) h2
  · have g := ((Below.refl w.heap.size w).alloc (Nat.le_refl _) (.cells #[.int .i64 0, .int .i64 0, .int .i64 0] 35)).alloc (by simp) (.cells R 35)
    exact ((g.setCell (p := ⟨w.heap.size, 0, none⟩) (Nat.le_refl _) _).setCell (p := ⟨w.heap.size, 0 + 1, none⟩) (Nat.le_refl _) _).setCell (p := ⟨w.heap.size, 0 + 1 + 1, none⟩) (Nat.le_refl _) _
theorem vec_range (w : World) (x y z : Int) : (w.alloc (.cells #[.int .i64 x, .int .i64 y, .int .i64 z] 35)).rangeAt w.heap.size 0 [.int .i64 x, .int .i64 y, .int .i64 z] := by
  intro j v hj
  refine (World.cell?_alloc_at (w := w) _ _ _ _ rfl).trans ?_
  rw [Nat.zero_add]
  simpa using hj
theorem one_cells (x y z : Int) : (#[Value.int .i64 x, .int .i64 y, .int .i64 z].all (·.oneCell')) = true := by simp [Value.oneCell']

end Go.Proofs.Ytkaikekibmgmmaa
