/- A disk in memory: what an append onto a row makes; the disk's own cells. -/
import Derived.Test.YtcjpednhefeboaaDsk
import Derived.Lib.EndianMore
namespace Go.Proofs.Ytcjpednhefeboaa
open Go.RowKit
set_option linter.unusedVariables false

theorem heap_setCells (w : World) (b : Nat) : ∀ (vs : List Value) (o : Nat) (w : World) (k : Nat), k ≠ b → (w.setCells b o vs).heap[k]? = w.heap[k]?
  | [], _, _, _, _ => rfl
  | v :: r, o, w, k, h => by rw [World.setCells, heap_setCells w b r (o + 1) _ k h, Below.heap_setCell _ _ _ _ h]
theorem size_setCells' (b : Nat) : ∀ (vs : List Value) (o : Nat) (w : World), (w.setCells b o vs).heap.size = w.heap.size
  | [], _, _ => rfl
  | v :: r, o, w => by rw [World.setCells, size_setCells' b r (o + 1)]; simp [World.setCell]
theorem keeps_setCells {F : Nat → Prop} {g : Nat} (hg : ¬ F g) : ∀ (vs : List Value) (o : Nat) (w : World), Keeps F w (w.setCells g o vs)
  | [], _, w => Keeps.refl _ _
  | v :: r, o, w => ((Keeps.refl F w).setCell (p := ⟨g, o, none⟩) hg v).trans (keeps_setCells hg r (o + 1) _)
theorem byteCells_at (s : ByteArray) (j : Nat) (h : j < s.data.toList.length) : (byteCells s)[j]? = some (.int .u8 (s.data.toList[j].toNat : Int)) := by
  unfold byteCells
  rw [List.getElem?_map, List.getElem?_eq_getElem h]
  rfl

/-- What an append of a string's bytes onto a row leaves: the longer row; every other row that reaches no further into the same block. -/
def PutOn (w w' : World) (F : Nat → Prop) (ao ao' : Option Addr) (cap' : Nat) (l l' : List UInt8) : Prop :=
  Row w' F ao' cap' l' ∧ Keeps F w w' ∧ (∀ k, k < w.heap.size → ao ≠ some ⟨k, 0, none⟩ → w'.heap[k]? = w.heap[k]?) ∧ (∀ k, ao' = some ⟨k, 0, none⟩ → ao = some ⟨k, 0, none⟩ ∨ w.heap.size ≤ k) ∧
    ∀ ao2 cap2 l2, Row w F ao2 cap2 l2 → (∀ a, ao2 = some a → ao = some a → l2.length ≤ l.length) → Row w' F ao2 cap2 l2 ∧ (∀ a, ao2 = some a → ao' = some a → l2.length ≤ l.length)

theorem row_put {w : World} {F : Nat → Prop} {cap : Nat} {ao : Option Addr} {l : List UInt8} (h : Row w F ao cap l) (hF : ∀ k, F k → k < w.heap.size) (s : ByteArray) (hz : l.length + s.size ≤ 1048576) : ∃ ao' cap' w', (Builtin.append_ #[59, 9] 59 #[.slice ao l.length cap, .string s]).run Try.prog w = .ok (.slice ao' (l.length + s.size) cap') w' ∧
    PutOn w w' F ao ao' cap' l (l ++ s.data.toList) := by
  obtain ⟨i, hi, hz0, hz1, hz2⟩ := info_parts byte_info
  have hs : ∀ w, Src Try.prog i.size 9 (.string s) s.size (byteCells s) w := fun w => by rw [hz1]; exact Src.ofString w Try.underlying9 s
  have hls : s.data.toList.length = s.size := Dk.len_data s
  have hlb : (byteCells s).length = s.size := byteCells_length s
  by_cases hroom : l.length + s.size ≤ cap
  · rcases h with ⟨rfl, rfl, rfl⟩ | ⟨b, rfl, h1, h2, h3, h4, h5, h6⟩
    · have h0 : s.size = 0 := by simpa using hroom
      have hd : s.data.toList = [] := List.eq_nil_of_length_eq_zero (by omega)
      have hb : byteCells s = [] := List.eq_nil_of_length_eq_zero (by omega)
      refine ⟨none, 0, w, ?_, ⟨?_, Keeps.refl _ _, fun _ _ _ => rfl, (by intro k hk; cases hk), (by intro ao2 cap2 l2 h2 h3; exact ⟨h2, by intro a _ e; cases e⟩)⟩⟩
      · have hs' := hs w
        have hl := hs'.len
        have hc := hs'.cells
        rw [h0] at hl hc ⊢
        simp [Builtin.append_, run_underlying Try.underlying59, run_underlying Try.underlying9, sizeOf, typeInfo, hi, hl, hc]
      · rw [hd]; exact Row.none_ _ _
    · have hr := run_append_room_src (P := Try.prog) w 59 9 59 5 i Try.underlying59 hi b 0 l.length cap (.string s) s.size (byteCells s) (hs w) hroom
        (fun j hj => by rw [hz1, Nat.zero_add, Nat.mul_one]; exact h5 _ (by omega)) (fun j hj => by rw [hz1, Nat.zero_add, Nat.mul_one]; exact h6 _ (by omega))
      rw [hz1, Nat.zero_add, Nat.mul_one] at hr
      have hout : ∀ j, j < l.length → (w.setCells b l.length (byteCells s)).cell? ⟨b, j, none⟩ = w.cell? ⟨b, j, none⟩ := fun j hj => World.cell?_setCells_out b _ _ w _ (fun _ _ => .inl hj)
      refine ⟨_, _, _, hr, ⟨.inr ⟨b, rfl, h1, ?_, ?_, fun j hj => ?_, fun j hj => World.isSome_setCells b _ _ w _ (h5 j hj), fun j hj => ?_⟩, keeps_setCells h1 _ _ _, fun k hk hne => heap_setCells w b _ _ w k (fun e => hne (by rw [e])), fun k hk => .inl hk, fun ao2 cap2 l2 g hsh => ⟨?_, fun a e1 e2 => hsh a e1 e2⟩⟩⟩
      · rw [size_setCells']; exact h2
      · rw [List.length_append, hls]; exact hroom
      · by_cases hj' : j < l.length
        · rw [hout j hj', h4 j hj', List.getElem_append_left hj']
        · rw [List.length_append] at hj
          have hin := World.cell?_setCells_in b (byteCells s) l.length w (fun j hj => h5 _ (by omega)) (j - l.length) (by omega)
          rw [show l.length + (j - l.length) = j by omega] at hin
          rw [hin, ← List.getElem?_eq_getElem, byteCells_at s _ (by omega), List.getElem_append_right (by omega)]
      · rw [World.frozen?_setCells]; exact h6 j hj
      · rcases g with g | ⟨b2, rfl, g1, g2, g3, g4, g5, g6⟩
        · exact .inl g
        · refine .inr ⟨b2, rfl, g1, by rw [size_setCells']; exact g2, g3, fun j hj => ?_, fun j hj => World.isSome_setCells b _ _ w _ (g5 j hj), fun j hj => by rw [World.frozen?_setCells]; exact g6 j hj⟩
          rw [World.cell?_setCells_out b _ _ w _ (fun e _ => .inl (by
            simp only at e
            subst e
            have := hsh _ rfl rfl
            simp only
            omega)), g4 j hj]
  · have hgr : cap < l.length + s.size := by omega
    have hold : (Builtin.firstCells i.size l.length (.slice ao l.length cap)).run Try.prog w.drew = .ok ((l.map fun b => Value.int .u8 (b.toNat : Int)).toArray) w.drew := by
      rcases h with ⟨rfl, rfl, rfl⟩ | ⟨b, rfl, h1, h2, h3, h4, h5, h6⟩
      · exact run_firstCells_none w.drew i.size 0 0 0
      · refine run_firstCells_some w.drew i.size l.length ⟨b, 0, none⟩ l.length cap _ (by rw [List.length_map, hz1, Nat.mul_one]) (fun j u hj => ?_)
        have hj' : j < l.length := by
          have := (List.getElem?_eq_some_iff.1 hj).1
          simpa using this
        have e : (⟨b, 0, none⟩ : Addr).add j = ⟨b, j, none⟩ := by simp [Addr.add]; omega
        rw [e]
        have := h4 j hj'
        rw [List.getElem?_map, List.getElem?_eq_getElem hj'] at hj
        exact this.trans hj
    have hr := run_append_grow_src (P := Try.prog) w 59 9 59 5 i (.int .u8 0) Try.underlying59 hi hz0 ao l.length cap _ hold (.string s) s.size (byteCells s) (hs w) hgr (by omega)
      (growslice_fits hgr (by rw [hz2]; omega))
    have hge := grownCap_ge w (l.length + s.size) cap 5
    have atn : ∀ C j, (w.drew.alloc (.cells C 5)).cell? ⟨w.heap.size, j, none⟩ = C[j]? := fun C j => World.cell?_alloc_at (w := w.drew) C _ _ j rfl
    refine ⟨_, _, _, hr, ⟨.inr ⟨w.heap.size, rfl, fun h => absurd (hF _ h) (Nat.lt_irrefl _), by simp, by rw [List.length_append, hls]; exact hge, fun j hj => ?_, fun j hj => ?_, fun j hj => World.frozen?_alloc_at (w := w.drew) _ _ _ j rfl⟩, ((Keeps.refl F w).drewN 1).alloc hF _, fun k hk _ => Below.heap_alloc w.drew _ k hk, fun k hk => .inr (by injection hk with e; injection e with e _ _; exact Nat.le_of_eq e), fun ao2 cap2 l2 g hsh => ⟨?_, fun a e1 e2 => ?_⟩⟩⟩
    · rw [atn, Array.getElem?_append_left (by simp [hlb]; rw [List.length_append] at hj; omega), List.getElem?_toArray]
      by_cases hj' : j < l.length
      · rw [List.getElem?_append_left (by simpa using hj'), List.getElem?_map, List.getElem?_eq_getElem hj', List.getElem_append_left hj']; rfl
      · rw [List.length_append] at hj
        rw [List.getElem?_append_right (by simpa using Nat.le_of_not_lt hj'), List.length_map, byteCells_at s _ (by omega), List.getElem_append_right (by omega)]
    · rw [atn, Array.getElem?_eq_getElem (by simp [hlb, size_zeroCells, Value.cells]; omega)]
      rfl
    · exact g.kept (by simp) fun b hb hlt => Below.heap_alloc w.drew _ b hlt
    · rcases g with ⟨rfl, _⟩ | ⟨b2, rfl, g1, g2, _⟩
      · cases e1
      · rw [← e1] at e2
        injection e2 with e
        injection e with e _ _
        omega

/-- A disk in memory, the blocks of F being others'. -/
def At (w : World) (F : Nat → Prop) (D : Nat) (d : Dk) : Prop := ∃ sa sc aa ac, (w.cell? ⟨D, 0, none⟩ = some (.int .i64 (d.size : Int)) ∧ w.cell? ⟨D, 1, none⟩ = some (.slice sa d.S.length sc) ∧ w.cell? ⟨D, 2, none⟩ = some (.slice aa d.A.length ac) ∧ w.cell? ⟨D, 3, none⟩ = some (.bool d.repl)) ∧
  (w.frozen? ⟨D, 1, none⟩ = false ∧ w.frozen? ⟨D, 2, none⟩ = false ∧ w.frozen? ⟨D, 3, none⟩ = false) ∧ (¬ F D ∧ ∀ k, F k → k < w.heap.size) ∧ Row w F sa sc d.S ∧ Row w F aa ac d.A ∧ (∀ b, sa = some ⟨b, 0, none⟩ → b ≠ D) ∧ (∀ b, aa = some ⟨b, 0, none⟩ → b ≠ D) ∧
  (∀ a, sa = some a → aa = some a → d.S.length ≤ d.A.length) ∧ d.Good

theorem At.lt {w : World} {F : Nat → Prop} {D : Nat} {d : Dk} (h : At w F D d) : D < w.heap.size := by
  obtain ⟨sa, sc, aa, ac, ⟨c0, _⟩, _⟩ := h
  exact World.block_lt_of_cell? w _ c0
theorem At.base {w : World} {F : Nat → Prop} {D : Nat} {d : Dk} (h : At w F D d) : ∀ k, F k → k < w.heap.size := by
  obtain ⟨sa, sc, aa, ac, _, _, hB, _⟩ := h
  exact hB.2
/-- What lies outside F, and what was there and is not D's nor its rows', may turn; here: all blocks but those of G, G in F. -/
theorem At.mono {w w' : World} {F G : Nat → Prop} {D : Nat} {d : Dk} (h : At w F D d) (g : Keeps (fun k => k < w.heap.size ∧ ¬ G k) w w') (hG : ∀ k, G k → F k) (K : Nat → Prop) (hK : ∀ k, K k → F k ∨ w.heap.size ≤ k ∧ k < w'.heap.size) : At w' K D d := by
  have hlt := h.lt
  obtain ⟨sa, sc, aa, ac, ⟨c0, c1, c2, c3⟩, ⟨f1, f2, f3⟩, hB, r1, r2, n1, n2, sh, hg⟩ := h
  have eD : w'.heap[D]? = w.heap[D]? := g.block D ⟨hlt, fun hd => hB.1 (hG D hd)⟩
  have ec : ∀ j, w'.cell? ⟨D, j, none⟩ = w.cell? ⟨D, j, none⟩ := fun j => World.cell?_of_block (w := w) eD
  have ef : ∀ j, w'.frozen? ⟨D, j, none⟩ = w.frozen? ⟨D, j, none⟩ := fun j => World.frozen?_of_block (w := w) eD
  have row : ∀ {ao cap l}, Row w F ao cap l → Row w' K ao cap l := by
    intro ao cap l r
    rcases r with r | ⟨b, rfl, h1, h2, h3, h4, h5, h6⟩
    · exact .inl r
    · have e : w'.heap[b]? = w.heap[b]? := g.block b ⟨h2, fun hb => h1 (hG b hb)⟩
      have ec : ∀ j, w'.cell? ⟨b, j, none⟩ = w.cell? ⟨b, j, none⟩ := fun j => World.cell?_of_block (w := w) e
      have ef : ∀ j, w'.frozen? ⟨b, j, none⟩ = w.frozen? ⟨b, j, none⟩ := fun j => World.frozen?_of_block (w := w) e
      refine .inr ⟨b, rfl, fun hk => ?_, Nat.lt_of_lt_of_le h2 g.size, h3, fun j hj => (ec j).trans (h4 j hj), fun j hj => by rw [ec]; exact h5 j hj, fun j hj => (ef j).trans (h6 j hj)⟩
      rcases hK b hk with q | q
      · exact h1 q
      · omega
  refine ⟨sa, sc, aa, ac, ⟨(ec _).trans c0, (ec _).trans c1, (ec _).trans c2, (ec _).trans c3⟩, ⟨(ef _).trans f1, (ef _).trans f2, (ef _).trans f3⟩, ⟨fun hk => ?_, fun k hk => ?_⟩, row r1, row r2, n1, n2, sh, hg⟩
  · rcases hK D hk with q | q
    · exact hB.1 q
    · omega
  · rcases hK k hk with q | q
    · exact Nat.lt_of_lt_of_le (hB.2 k q) g.size
    · exact q.2
/-- Nothing of what was there has turned. -/
theorem At.kept {w w' : World} {F : Nat → Prop} {D : Nat} {d : Dk} (h : At w F D d) (g : Below w.heap.size w w') : At w' F D d :=
  h.mono (G := fun _ => False) (Keeps.of_below g fun _ hk => hk.1) (fun _ hk => hk.elim) F fun _ hk => .inl hk

end Go.Proofs.Ytcjpednhefeboaa
