/- Quotas: the row of amounts that is filled; what the statement safe's walk holds. -/
import Derived.Test.YtkakgjmajplgmaaQtE
namespace Go.Proofs.Ytkakgjmajplgmaa
open Go.RowKit
set_option linter.unusedVariables false

theorem quiet_mid {P : Program} {ops : Array Oper} {C : World → Prop} {Q : Act → Prop} {a : Act} {o : Oper} {rest : List Oper} (b i : Nat) (cs : List Value) (ty : TypeId) (d : TypeDesc) (x : Operand) (hC : ∀ w, C w → w.rangeAt b i cs) (ho : o.op = .load ty x) (hx : a.eval x = .pointer (some ⟨b, i, none⟩))
    (hw : Region.wanted o (yielded ops a.tmps) = true) (hu : P.underlying ty = some d) (hd : d.isRow = true) (hi : (P.info? ty).map (·.size) = some cs.length) (h : wpQuiet P ops C Q rest (a.put o.dst (.agg cs.toArray))) : wpQuiet P ops C Q (o :: rest) a :=
  quiet_load (.pointer (some ⟨b, i, none⟩)) (.agg cs.toArray) ty x (fun w hw' => by
    simp only [Instr.loadAt, Instr.sureAddr, Sem.run_bind, Sem.run_pure, Result.andThen_ok, run_loadVar_mid w b i ty cs d (hC w hw') hu hd hi]) ho hx hw h

/-- The first j amounts are those used, the others nothing. -/
def Qt.fill (used : List V3) (n j : Nat) : List V3 := (List.range n).map fun i : Nat => if i < j then Qt.ath used (i : Int) else Qt.z3
theorem Qt.fill_len (used : List V3) (n j : Nat) : (Qt.fill used n j).length = n := by simp [Qt.fill]
theorem Qt.fill_zero (used : List V3) (n : Nat) : Qt.fill used n 0 = List.replicate n Qt.z3 := by
  unfold Qt.fill
  have h : (fun i : Nat => if i < 0 then Qt.ath used (i : Int) else Qt.z3) = fun _ => Qt.z3 := by funext i; rw [if_neg (by omega)]
  rw [h, List.map_const', List.length_range]
theorem Qt.fill_succ (used : List V3) (n j : Nat) (hj : j < n) : (Qt.fill used n j).set j (Qt.ath used (j : Int)) = Qt.fill used n (j + 1) := by
  apply List.ext_getElem?
  intro i
  rw [List.getElem?_set, Qt.fill_len]
  by_cases h : j = i
  · subst h
    rw [if_pos rfl, if_pos hj, Qt.fill, List.getElem?_map, List.getElem?_range hj, Option.map_some, if_pos (by omega)]
  · rw [if_neg h, Qt.fill, Qt.fill, List.getElem?_map, List.getElem?_map]
    cases q : (List.range n)[i]? with
    | none => rfl
    | some k =>
      have hk : k = i := by
        have hi : i < n := by
          rcases Nat.lt_or_ge i n with p | p
          · exact p
          · rw [List.getElem?_eq_none (by simpa using p)] at q; cases q
        rw [List.getElem?_range hi] at q
        simpa using q.symm
      subst hk
      simp only [Option.map_some]
      by_cases p : k < j
      · rw [if_pos p, if_pos (by omega)]
      · rw [if_neg p, if_neg (by omega)]
theorem Qt.fill_now (ns : List Nd) (used : List V3) (t : Int) (need : V3) (n : Nat) (hn : ns.length = n) : (Qt.fill used n n).set t.toNat (Qt.add (Qt.ath used t) need) = Qt.now ns used t need := by
  unfold Qt.now
  subst hn
  congr 1
  apply List.map_congr_left
  intro i hi
  rw [if_pos (List.mem_range.1 hi)]
theorem Qt.fill_at (used : List V3) (n : Nat) {t : Int} (h : 0 ≤ t ∧ t < n) : (Qt.fill used n n)[t.toNat]? = some (Qt.ath used t) := by
  rw [Qt.fill, List.getElem?_map, List.getElem?_range (by omega), Option.map_some, if_pos (by omega), show ((t.toNat : Nat) : Int) = t by omega]

theorem cells3_cons (x : V3) (l : List V3) : cellsOf V3.c (x :: l) = .int .i64 x.x :: .int .i64 x.y :: .int .i64 x.z :: cellsOf V3.c l := by simp [cellsOf, V3.c]
theorem cells3_set : ∀ (l : List V3) (i : Nat) (x : V3), i < l.length → (((cellsOf V3.c l).set (i * 3) (.int .i64 x.x)).set (i * 3 + 1) (.int .i64 x.y)).set (i * 3 + 2) (.int .i64 x.z) = cellsOf V3.c (l.set i x)
  | [], i, x, h => by simp at h
  | y :: l, 0, x, _ => by simp [cells3_cons]
  | y :: l, i + 1, x, h => by
    have ih := cells3_set l i x (by simpa using h)
    rw [List.set_cons_succ, cells3_cons, cells3_cons, ← ih]
    rw [show (i + 1) * 3 = i * 3 + 1 + 1 + 1 by omega, show i * 3 + 1 + 1 + 1 + 1 = i * 3 + 1 + 1 + 1 + 1 from rfl, show i * 3 + 1 + 1 + 1 + 2 = i * 3 + 2 + 1 + 1 + 1 from rfl]
    simp only [List.set_cons_succ]
theorem row_set3 {w : World} {B : Nat} {l : List V3} {t : TypeId} (h : Row w B (cellsOf V3.c l).toArray t) (i : Nat) (x : V3) (hi : i < l.length) :
    Row (w.setCells B (0 + i * 3) [.int .i64 x.x, .int .i64 x.y, .int .i64 x.z]) B (cellsOf V3.c (l.set i x)).toArray t := by
  have h3 := ((h.set (i * 3) (.int .i64 x.x)).set (i * 3 + 1) (.int .i64 x.y)).set (i * 3 + 2) (.int .i64 x.z)
  rw [List.setIfInBounds_toArray, List.setIfInBounds_toArray, List.setIfInBounds_toArray, cells3_set l i x hi] at h3
  rw [Nat.zero_add]
  exact h3
theorem but_set3 (w : World) (B o : Nat) (a b c : Value) : But B w (w.setCells B o [a, b, c]) :=
  (((But.refl B w).setCell (p := ⟨B, o, none⟩) (.inr rfl) a).setCell (p := ⟨B, o + 1, none⟩) (.inr rfl) b).setCell (p := ⟨B, o + 1 + 1, none⟩) (.inr rfl) c
theorem row_sl {w : World} {B : Nat} {l : List V3} {t : TypeId} (h : Row w B (cellsOf V3.c l).toArray t) (hs : l.length ≤ 9223372036854775807) (cap : Nat) : Sl V3.c 26 3 w (some ⟨B, 0, none⟩) cap B 0 l :=
  ⟨hs, fun _ => h.lt, fun i hi w0 => vec_idx B l.length cap i hi w0, fun i x hx j v hv => by
    rw [h.at_, Nat.zero_add]
    have := cellsOf_at V3.c 3 (fun _ => rfl) l i x j v hx hv
    simpa using this⟩
theorem row_there {w : World} {B : Nat} {l : List V3} {t : TypeId} (h : Row w B (cellsOf V3.c l).toArray t) (i : Nat) (hi : i < l.length) : w.there B (0 + i * 3) 3 := by
  have hl : (cellsOf V3.c l).length = l.length * 3 := by
    clear h hi
    induction l with
    | nil => rfl
    | cons y l ih => rw [cells3_cons]; simp only [List.length_cons, ih]; omega
  intro j hj
  refine ⟨?_, ?_⟩
  · rw [h.at_, List.getElem?_toArray, List.getElem?_eq_getElem (by omega)]
    rfl
  · exact h.soft _

theorem made_vecs (n : Nat) : madeCells (Value.agg (⟨0, 0, 0⟩ : V3).c).cells (n * 3) = (cellsOf V3.c (List.replicate n Qt.z3)).toArray := by
  have hr : cellsOf V3.c (List.replicate n Qt.z3) = List.replicate (n * 3) (.int .i64 0) := by
    induction n with
    | zero => rfl
    | succ n ih =>
      rw [List.replicate_succ, cells3_cons, ih, show (n + 1) * 3 = n * 3 + 1 + 1 + 1 by omega, List.replicate_succ, List.replicate_succ, List.replicate_succ]
      rfl
  rw [hr]
  apply Array.toList_inj.1
  apply List.ext_getElem?
  intro j
  by_cases h : j < n * 3
  · have : j % 3 = 0 ∨ j % 3 = 1 ∨ j % 3 = 2 := by omega
    rcases this with e | e | e <;> simp [madeCells, Value.cells, V3.c, h, e]
  · simp [madeCells, h]
theorem make_now (w : World) (n : Nat) (hn : n ≤ 12) : (Instr.makeSlice 26 (.int .i64 (n : Int)) (.int .i64 (n : Int))).run Try.prog w = .ok (.slice (some ⟨w.heap.size, 0, none⟩) n n) (w.alloc (.cells (cellsOf V3.c (List.replicate n Qt.z3)).toArray 29)) := by
  obtain ⟨i, hi, hz, hs, hb⟩ := info_parts vec_info
  have h := run_make (P := Try.prog) w 26 29 i _ Try.underlying26 hi hz .i64 .i64 n n (by omega) (by omega) (by rw [hb]; omega) (by omega)
  rw [hs, Int.toNat_natCast, made_vecs n] at h
  exact h

/-- What stands in every world of the walk. -/
structure SfSo (w : World) (C4 N3 : Array Value) (wr : World) : Prop where
  low : Below w.heap.size w wr
  cfg : Row wr w.heap.size C4 25
  need : Row wr (w.heap.size + 1 + 1) N3 29
theorem SfSo.kept {w wr wz : World} {C4 N3 : Array Value} (h : SfSo w C4 N3 wr) (g : Below wr.heap.size wr wz) : SfSo w C4 N3 wz := ⟨below_trans h.low g, h.cfg.under g, h.need.under g⟩
theorem SfSo.aside {w wr wz : World} {C4 N3 : Array Value} {B : Nat} (h : SfSo w C4 N3 wr) (hB : w.heap.size + 1 + 1 < B) (g : But B wr wz) : SfSo w C4 N3 wz :=
  ⟨h.low.trans (g.below (by omega) h.low.size), h.cfg.keep g (by omega), h.need.keep g (by omega)⟩

end Go.Proofs.Ytkakgjmajplgmaa
