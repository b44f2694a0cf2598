/- KuA KuB KuC Barr: joined. -/
import Derived.Test.YtkakgjmajplgmaaZc
import Derived.Test.YtkakgjmajplgmaaQtF
import Derived.Test.YtkakgjmajplgmaaQtI
import Derived.Test.YtkakgjmajplgmaaQuiet
import Derived.OrdersHeld
import Derived.Laws.Tables
import Derived.Deep.RegionHeld3
namespace Go.Proofs.Ytkakgjmajplgmaa
open Go.RowKit
set_option linter.unusedVariables false

section
variable {P : Program} {ops : Array Oper} {C : World → Prop}
/-- A function that is a value is called. -/
theorem quiet_callv {Q : Act → Prop} {a : Act} {o : Oper} {rest : List Oper} (k : Nat) (f : Operand) (xs : Array Operand) (ts : Array TypeId) (args : Array Value) (v : Value) (hc : ∀ w, C w → Calls P k args w fun e w' => e = .returned v ∧ C w')
    (he : ∀ args w, (callFunc k args).run P w = .ok (.enter k args) w) (ho : o.op = .call { callee := .value f, args := xs, argTypes := ts }) (hf : a.eval f = .func (.func k) #[] #[]) (hx : xs.map a.eval = args)
    (hw : Region.wanted o (yielded ops a.tmps) = true) (h : wpQuiet P ops C Q rest (a.put o.dst v)) : wpQuiet P ops C Q (o :: rest) a := by
  unfold wpQuiet
  rw [if_pos hw]
  refine ⟨v, fun w hw' => ?_, h⟩
  have hr : (execOp a.eval o).run P w = .ok (.enter k args) w := by
    unfold execOp
    simp only [ho, resolve, hf, Deferred.ofValue, invoke, hx, Sem.run_bind, Sem.run_pure, Result.andThen_ok, Array.append_empty, Array.empty_append, he]
  unfold Oper.quietAt
  rw [hr]
  exact ⟨rfl, hc w hw'⟩
end

theorem row_range {w : World} {B : Nat} {cs : Array Value} {t : TypeId} (h : Row w B cs t) (i : Nat) (l : List Value) (hl : ∀ j v, l[j]? = some v → cs[i + j]? = some v) : w.rangeAt B i l := fun j v hj => by
  rw [h.at_]
  exact hl j v hj

set_option maxHeartbeats 400000 in
theorem kOver3 (v u : V3) (w : World) : Calls Try.prog 32 #[.agg #[.int .i64 v.x, .int .i64 v.y, .int .i64 v.z], .agg #[.int .i64 u.x, .int .i64 u.y, .int .i64 u.z]] w (RetBelow (.bool (!Cf.fits v u)) w) := by
  have hc := fun w => kFits3 v u w
  have g0 := Lib.hid (two_below w (.cells #[.int .i64 v.x, .int .i64 v.y, .int .i64 v.z] 29) (.cells #[.int .i64 u.x, .int .i64 u.y, .int .i64 u.z] 29))
  have HC := Lib.hid hc
  clear hc
  go_enter Try.func32, Try.ntmps32
  go_wp2_with fail
  refine (HC.out _).mono ?_
  rintro er w1 ⟨rfl, b1⟩
  have G1 := Lib.hid (below_trans g0.out b1)
  clear b1
  go_wp2_with fail
  go_ret
  exact ⟨rfl, G1.out⟩

set_option maxHeartbeats 400000 in
theorem kUsed (l : List V3) (ao : Option Addr) (cap bb oo : Nat) (n : Int) (w : World) (h0 : 0 ≤ n) (h : Sl V3.c 26 3 w ao cap bb oo l) :
    Calls Try.prog 43 #[.slice ao l.length cap, .int .i64 n] w (RetBelow (.agg (Qt.ath l n).c) w) := by
  obtain ⟨s, hs⟩ : ∃ s, Qt.ath l n = s := ⟨_, rfl⟩
  have hout : ¬ (n < l.length) → s = ⟨0, 0, 0⟩ := fun q => by rw [← hs, Qt.ath, if_neg (by omega)]; rfl
  have hin : n < l.length → l[n.toNat]? = some s := fun q => by
    rw [← hs, Qt.ath, if_pos ⟨h0, q⟩, List.getD_eq_getElem?_getD, List.getElem?_eq_getElem (by omega)]
    rfl
  have n63 := h.small
  have hidx := h.idx
  rw [hs]
  obtain ⟨nl, hnl⟩ : ∃ n, l.length = n := ⟨_, rfl⟩
  rw [hnl] at n63 hidx hout hin ⊢
  obtain ⟨zn, hzn⟩ : ∃ z : Int, (nl : Int) = z := ⟨_, rfl⟩
  rw [hzn] at hout hin
  have HO := Lib.hid hout; have HI := Lib.hid hin; have HIX := Lib.hid hidx; have HS := Lib.hid h
  clear hout hin hidx h hs hnl
  have r0 := Lib.hid (Row.new w #[.int .i64 0, .int .i64 0, .int .i64 0] 29)
  have g0 := Lib.hid (show Below w.heap.size w (w.alloc (.cells #[.int .i64 0, .int .i64 0, .int .i64 0] 29)) from (Below.refl _ _).alloc (Nat.le_refl _) _)
  by_cases n1 : zn ≤ n
  · have hf := HO.out (by omega)
    subst hf
    simp only [V3.c]
    go_enter Try.func43, Try.ntmps43
    go_wp2_with (first | (refine wpList_store_row rfl 29 _ _ rfl w.heap.size #[.int .i64 0, .int .i64 0, .int .i64 0] rfl rfl _ _ r0.out vec_len rfl (one_cells 0 0 0) ?_) | fail)
    exact bodyPost_ret (results_cell_row (p := 4) (by kernel_rfl) _ _ w.heap.size _ _ _ _ rfl (r0.out.setRow _) Try.underlying29 rfl vec_len) rfl ⟨rfl, below_setRow3 g0.out (Nat.le_refl _) _⟩
  have hx := HI.out (by omega)
  have hi := HIX.out n.toNat (by omega)
  rw [show ((n.toNat : Nat) : Int) = n by omega] at hi
  have hr := (HS.out.kept g0.out).at_ n.toNat s hx
  obtain ⟨x, y, z⟩ := s
  simp only [V3.c] at hr ⊢
  have HR := Lib.hid hr
  clear hr hx
  go_enter Try.func43, Try.ntmps43
  go_wp2_with (first
    | (refine wpList_load_mid rfl 29 _ rfl bb (oo + n.toNat * 3) rfl _ _ HR.out Try.underlying29 rfl vec_len ?_)
    | (refine wpList_store_row rfl 29 _ _ rfl w.heap.size #[.int .i64 x, .int .i64 y, .int .i64 z] rfl rfl _ _ r0.out vec_len rfl (one_cells x y z) ?_)
    | fail)
  exact bodyPost_ret (results_cell_row (p := 4) (by kernel_rfl) _ _ w.heap.size _ _ _ _ rfl (r0.out.setRow _) Try.underlying29 rfl vec_len) rfl ⟨rfl, below_setRow3 g0.out (Nat.le_refl _) _⟩

/-- The newest two blocks: an amount of which the first r numbers have been turned; the result's place. -/
def Turn2 (w : World) (a s : V3) (r : Nat) : World :=
  (w.alloc (.cells #[.int .i64 (part3 a s r 0), .int .i64 (part3 a s r 1), .int .i64 (part3 a s r 2)] 29)).alloc (.cells #[.int .i64 0, .int .i64 0, .int .i64 0] 29)
theorem turn2_step (w : World) (a s : V3) (r : Nat) (hr : r < 3) : (Turn2 w a s r).setCell ⟨w.heap.size, r, none⟩ (.int .i64 (s.at_ r)) = Turn2 w a s (r + 1) := by
  unfold Turn2
  rw [World.setCell_alloc_past _ _ _ _ (by simp), World.setCell_alloc_at _ _ _ _ _ rfl]
  have hk : r = 0 ∨ r = 1 ∨ r = 2 := by omega
  rcases hk with rfl | rfl | rfl <;> rfl
theorem turn2_cell (w : World) (a s : V3) (r : Nat) (hr : r < 3) : (Turn2 w a s r).cell? ⟨w.heap.size, r, none⟩ = some (.int .i64 (a.at_ r)) := by
  unfold Turn2
  rw [World.cell?_alloc_past _ _ _ (by simp), World.cell?_alloc_at _ _ _ _ rfl]
  have hk : r = 0 ∨ r = 1 ∨ r = 2 := by omega
  rcases hk with rfl | rfl | rfl <;> rfl
theorem turn2_free (w : World) (a s : V3) (r i : Nat) : (Turn2 w a s r).frozen? ⟨w.heap.size, i, none⟩ = false := by
  unfold Turn2
  rw [World.frozen?_alloc_past _ _ _ (by simp), World.frozen?_alloc_at _ _ _ _ rfl]
theorem pos1_max (x : Int) : max x 0 = Qt.pos1 x := by unfold Qt.pos1; split <;> omega
theorem Qt.pos_at (v : V3) (k : Nat) : (Qt.pos v).at_ k = Qt.pos1 (v.at_ k) := by
  match k with
  | 0 => rfl
  | 1 => rfl
  | k + 2 => rfl

set_option maxHeartbeats 400000 in
theorem kAbove (v : V3) (w : World) : Calls Try.prog 41 #[.agg #[.int .i64 v.x, .int .i64 v.y, .int .i64 v.z]] w (RetBelow (.agg #[.int .i64 (Qt.pos v).x, .int .i64 (Qt.pos v).y, .int .i64 (Qt.pos v).z]) w) := by
  obtain ⟨s, hs⟩ : ∃ s, Qt.pos v = s := ⟨_, rfl⟩
  have hsk : ∀ k, s.at_ k = Qt.pos1 (v.at_ k) := fun k => by rw [← hs]; exact Qt.pos_at v k
  rw [hs]
  have HSK := Lib.hid hsk
  clear hs hsk
  go_enter Try.func41, Try.ntmps41
  go_wp2_with fail
  go_loopw [4] (fun i wr => ∃ k : Nat, k ≤ 3 ∧ i = .int .i64 (k : Int) ∧ wr = Turn2 w v s k) (fun i _ => 3 - (intOf i).toNat)
  case atStart => exact ⟨0, by omega, rfl, rfl⟩
  case round =>
    obtain ⟨k, hk, rfl, hW⟩ := hrel
    by_cases hlt : k < 3
    · have hA : wr.cell? ⟨w.heap.size, k, none⟩ = some (.int .i64 (v.at_ k)) := by rw [hW]; exact turn2_cell _ _ _ _ hlt
      have hf : wr.frozen? ⟨w.heap.size, k, none⟩ = false := by rw [hW]; exact turn2_free _ _ _ _ _
      have HW := Lib.hid hW; clear hW
      have hsk := HSK.out k
      obtain ⟨a, ha⟩ : ∃ a, v.at_ k = a := ⟨_, rfl⟩
      rw [ha] at hA hsk
      rw [← pos1_max] at hsk
      have HS := Lib.hid hsk
      clear ha hsk
      have r3 : (k : Int) < 3 := by omega
      go_wp2_with fail
      go_roundw
      case rel => exact ⟨k + 1, by omega, by go_num, by rw [HW.out, ← HS.out]; exact turn2_step _ _ _ _ hlt⟩
      case measure => simp [intOf]; omega
    · obtain rfl : k = 3 := by omega
      subst hW
      unfold Turn2
      go_wp2_with fail
      have rn := Row.new (w.alloc (.cells #[.int .i64 (part3 v s 3 0), .int .i64 (part3 v s 3 1), .int .i64 (part3 v s 3 2)] 29)) #[.int .i64 (part3 v s 3 0), .int .i64 (part3 v s 3 1), .int .i64 (part3 v s 3 2)] 29
      rw [World.size_alloc] at rn
      exact bodyPost_ret (results_cell_row (p := 2) (by kernel_rfl) _ _ (w.heap.size + 1) _ _ _ _ rfl rn Try.underlying29 rfl vec_len) rfl ⟨rfl, two_below _ _ _⟩

end Go.Proofs.Ytkakgjmajplgmaa
namespace Go.Proofs.Ytkakgjmajplgmaa
open Go.RowKit
set_option linter.unusedVariables false

theorem Qt.fill_full (M : List V3) : Qt.fill M M.length M.length = M := by
  apply List.ext_getElem?
  intro i
  rcases Nat.lt_or_ge i M.length with h | h
  · rw [Qt.fill, List.getElem?_map, List.getElem?_range h, Option.map_some, if_pos h, List.getElem?_eq_getElem h, Qt.ath, if_pos (by omega), List.getD_eq_getElem?_getD]
    rw [show ((i : Int)).toNat = i by omega, List.getElem?_eq_getElem h]
    rfl
  · rw [List.getElem?_eq_none (by rw [Qt.fill_len]; exact h), List.getElem?_eq_none h]
theorem Qt.fill_skip (M : List V3) (n j : Nat) (hj : j < n) (h : Qt.ath M (j : Int) = Qt.z3) : Qt.fill M n j = Qt.fill M n (j + 1) := by
  rw [← Qt.fill_succ M n j hj, h]
  apply List.ext_getElem?
  intro i
  rw [List.getElem?_set, Qt.fill_len]
  by_cases e : j = i
  · subst e
    rw [if_pos rfl, if_pos hj, Qt.fill, List.getElem?_map, List.getElem?_range hj, Option.map_some, if_neg (by omega)]
  · rw [if_neg e]
theorem Qt.ath_some {l : List V3} {i : Nat} {x : V3} (h : l[i]? = some x) : Qt.ath l (i : Int) = x := by
  have hl := (List.getElem?_eq_some_iff.1 h).1
  rw [Qt.ath, if_pos (by omega), show ((i : Int)).toNat = i by omega, List.getD_eq_getElem?_getD, h]
  rfl

/-- What stands in every world of the walk over all nodes. -/
structure NoTo (w : World) (C4 : Array Value) (M : List V3) (n : Nat) (j : Int) (wr : World) : Prop where
  row : Row wr (w.heap.size + 1 + 1) (cellsOf V3.c (Qt.fill M n j.toNat)).toArray 29
  box : Row wr w.heap.size C4 25
  res : Row wr (w.heap.size + 1) #[.int .i64 0, .int .i64 0, .int .i64 0] 29
  low : Below w.heap.size w wr
theorem NoTo.later {w : World} {C4 : Array Value} {M : List V3} {n : Nat} {j : Int} {wr w9 : World} (h : NoTo w C4 M n j wr) (g : Below wr.heap.size wr w9) : NoTo w C4 M n j w9 :=
  ⟨h.row.under g, h.box.under g, h.res.under g, h.low.trans (g.mono h.low.size)⟩
theorem NoTo.step {w : World} {C4 : Array Value} {M : List V3} {n : Nat} {j : Int} {wr : World} (h : NoTo w C4 M n j wr) (h0 : 0 ≤ j) (hn : j < n) (x : V3) (hx : Qt.ath M j = x) :
    NoTo w C4 M n (j + 1) (wr.setCells (w.heap.size + 1 + 1) (0 + j.toNat * 3) [.int .i64 x.x, .int .i64 x.y, .int .i64 x.z]) := by
  have e := Qt.fill_succ M n j.toNat (by omega)
  rw [show ((j.toNat : Nat) : Int) = j by omega, hx] at e
  have r := row_set3 h.row j.toNat x (by rw [Qt.fill_len]; omega)
  rw [e] at r
  have b := but_set3 wr (w.heap.size + 1 + 1) (0 + j.toNat * 3) (.int .i64 x.x) (.int .i64 x.y) (.int .i64 x.z)
  exact ⟨by rw [show (j + 1).toNat = j.toNat + 1 by omega]; exact r, h.box.keep b (by omega), h.res.keep b (by omega), h.low.trans (b.below (by omega) h.low.size)⟩
theorem NoTo.pass {w : World} {C4 : Array Value} {M : List V3} {n : Nat} {j : Int} {wr : World} (h : NoTo w C4 M n j wr) (h0 : 0 ≤ j) (hn : j < n) (hx : Qt.ath M j = Qt.z3) : NoTo w C4 M n (j + 1) wr := by
  have e := Qt.fill_skip M n j.toNat (by omega) (by rw [show ((j.toNat : Nat) : Int) = j by omega]; exact hx)
  exact ⟨by rw [show (j + 1).toNat = j.toNat + 1 by omega, ← e]; exact h.row, h.box, h.res, h.low⟩

set_option maxHeartbeats 1000000 in
set_option maxRecDepth 8000 in
theorem kNominal (c : Cmd) (vn vh : Value) (n : Int) (w : World) (h12 : c.nodes.length ≤ 12) (h : CmAt c vn vh w) :
    Calls Try.prog 24 #[.agg (c.f vn vh), .int .i64 n] w (RetBelow (.agg (Qt.nominal c.nodes n).c) w) := by
  have hsum := fun w2 (g : Below w.heap.size w w2) ao cp lb lo hU => qSum c vn vh n (c.nodes.map (·.nom)) ao cp lb lo w2 (by omega) (h.kept g) hU
  have hnom : Qt.sum c.nodes n (c.nodes.map (·.nom)) = Qt.nominal c.nodes n := rfl
  rw [hnom] at hsum
  obtain ⟨an, cn, nb, no, ah, ch, hb, ho, rfl, rfl, hN, _⟩ := h
  obtain ⟨S, hS⟩ : ∃ s, Qt.nominal c.nodes n = s := ⟨_, rfl⟩
  rw [hS] at hsum ⊢
  obtain ⟨kind, ns, hosts, half, age, gg, k0⟩ := c
  simp only [Cmd.f] at *
  obtain ⟨hl, hhl⟩ : ∃ k, hosts.length = k := ⟨_, rfl⟩
  rw [hhl] at hsum ⊢
  have hNi := hN.idx
  have n63 := hN.small
  have hml : (ns.map (·.nom)).length = ns.length := by simp
  have hmi : ∀ (k : Nat) x, ns[k]? = some x → Qt.ath (ns.map (·.nom)) (k : Int) = x.nom := fun k x hx => Qt.ath_some (by rw [List.getElem?_map, hx]; rfl)
  have hmk := make_now ((w.alloc (.cells #[.slice an ns.length cn, .slice ah hl ch, .int .i64 half, .int .i64 age] 25)).alloc (.cells #[.int .i64 0, .int .i64 0, .int .i64 0] 29)) ns.length h12
  obtain ⟨M, hM⟩ : ∃ m, ns.map (·.nom) = m := ⟨_, rfl⟩
  have hful := Qt.fill_full M
  rw [hM] at hsum hml hmi
  rw [hml] at hsum hful
  have so0 : NoTo w #[.slice an ns.length cn, .slice ah hl ch, .int .i64 half, .int .i64 age] M ns.length 0 (((w.alloc (.cells #[.slice an ns.length cn, .slice ah hl ch, .int .i64 half, .int .i64 age] 25)).alloc (.cells #[.int .i64 0, .int .i64 0, .int .i64 0] 29)).alloc (.cells (cellsOf V3.c (List.replicate ns.length Qt.z3)).toArray 29)) := by
    have rA := ((Row.new w #[.slice an ns.length cn, .slice ah hl ch, .int .i64 half, .int .i64 age] 25).under ((Below.refl _ _).alloc (Nat.le_refl _) (.cells #[.int .i64 0, .int .i64 0, .int .i64 0] 29))).under ((Below.refl _ _).alloc (Nat.le_refl _) (.cells (cellsOf V3.c (List.replicate ns.length Qt.z3)).toArray 29))
    have rB := (Row.new (w.alloc (.cells #[.slice an ns.length cn, .slice ah hl ch, .int .i64 half, .int .i64 age] 25)) #[.int .i64 0, .int .i64 0, .int .i64 0] 29).under ((Below.refl _ _).alloc (Nat.le_refl _) (.cells (cellsOf V3.c (List.replicate ns.length Qt.z3)).toArray 29))
    have rC := Row.new ((w.alloc (.cells #[.slice an ns.length cn, .slice ah hl ch, .int .i64 half, .int .i64 age] 25)).alloc (.cells #[.int .i64 0, .int .i64 0, .int .i64 0] 29)) (cellsOf V3.c (List.replicate ns.length Qt.z3)).toArray 29
    simp only [World.size_alloc] at rA rB rC
    exact ⟨by rw [show (0 : Int).toNat = 0 from rfl, Qt.fill_zero]; exact rC, rA, rB, (((Below.refl _ w).alloc (Nat.le_refl _) _).alloc (by simp) _).alloc (by simp; omega) _⟩
  obtain ⟨W3, hW3⟩ : ∃ V, ((w.alloc (.cells #[.slice an ns.length cn, .slice ah hl ch, .int .i64 half, .int .i64 age] 25)).alloc (.cells #[.int .i64 0, .int .i64 0, .int .i64 0] 29)).alloc (.cells (cellsOf V3.c (List.replicate ns.length Qt.z3)).toArray 29) = V := ⟨_, rfl⟩
  have q0 : W3.cell? ⟨w.heap.size, 0, none⟩ = some (.slice an ns.length cn) := by rw [← hW3]; exact so0.box.at_ 0
  rw [hW3] at hmk so0
  simp only [World.size_alloc] at hmk
  have hvi := fun (i : Nat) (hi : i < ns.length) w0 => vec_idx (w.heap.size + 1 + 1) ns.length ns.length i hi w0
  obtain ⟨nl, hnl⟩ : ∃ n, ns.length = n := ⟨_, rfl⟩
  rw [hnl] at hsum hNi n63 so0 hml hmk hvi hful q0 ⊢
  obtain ⟨zn, hzn⟩ : ∃ z : Int, (nl : Int) = z := ⟨_, rfl⟩
  rw [hzn] at hmk
  have HSUM := Lib.hid hsum; have HNI := Lib.hid hNi; have HN := Lib.hid hN; have HL := Lib.hid hnl; have HZ := Lib.hid hzn; have S0 := Lib.hid so0; have HML := Lib.hid hml; have HMI := Lib.hid hmi; have HVI := Lib.hid hvi; have HF := Lib.hid hful
  clear hsum hNi hN hnl so0 hml hmi hM hnom hS h12 hvi hful hhl hW3
  go_enter Try.func24, Try.ntmps24
  go_wp2_with fail
  clear hmk q0
  go_loopw [15] (fun i wr => ∃ (j : Int), i = .int .i64 j ∧ 0 ≤ j ∧ j ≤ zn ∧ Hid (NoTo w #[.slice an nl cn, .slice ah hl ch, .int .i64 half, .int .i64 age] M nl j wr)) (fun i _ => (zn - intOf i).toNat)
  case atStart => exact ⟨0, rfl, by omega, by omega, S0.out⟩
  case round =>
    obtain ⟨j, rfl, hj0, hjz, hd⟩ := hrel
    by_cases hlt : j < zn
    · obtain ⟨x, hx⟩ : ∃ x, ns[j.toNat]? = some x := ⟨_, List.getElem?_eq_getElem (by have := HL.out; omega)⟩
      have hi := HNI.out j.toNat (by omega)
      rw [show ((j.toNat : Nat) : Int) = j by omega] at hi
      have hr := (HN.out.kept hd.out.low).at_ j.toNat x hx
      have hst := HMI.out j.toNat x hx
      rw [show ((j.toNat : Nat) : Int) = j by omega] at hst
      obtain ⟨p, t, ⟨a0, a1, a2⟩, ⟨b0, b1, b2⟩, ⟨c0, c1, c2⟩⟩ := x
      simp only [Nd.c] at hr hst
      have HR := Lib.hid hr
      clear hr hx
      obtain ⟨oi, hoi⟩ : ∃ n, no + j.toNat * 11 = n := ⟨_, rfl⟩
      rw [hoi] at hi HR
      clear hoi
      have g1 := (Below.refl wr.heap.size wr).alloc (Nat.le_refl _) (.cells #[.int .i64 p, .int .i64 t, .int .i64 a0, .int .i64 a1, .int .i64 a2, .int .i64 b0, .int .i64 b1, .int .i64 b2, .int .i64 c0, .int .i64 c1, .int .i64 c2] 42)
      have R1 := row_range (Row.new wr #[.int .i64 p, .int .i64 t, .int .i64 a0, .int .i64 a1, .int .i64 a2, .int .i64 b0, .int .i64 b1, .int .i64 b2, .int .i64 c0, .int .i64 c1, .int .i64 c2] 42) 2 [.int .i64 a0, .int .i64 a1, .int .i64 a2] (by
        intro j v hj
        rcases j with _ | _ | _ | j
        · exact hj
        · exact hj
        · exact hj
        · simp at hj)
      have s1 := hd.out.later g1
      have hvi := HVI.out j.toNat (by have := HZ.out; omega)
      rw [show ((j.toNat : Nat) : Int) = j by omega] at hvi
      go_upto_region 5 with (first | (refine wpList_load_mid rfl 42 _ rfl nb oi rfl _ _ HR.out Try.underlying42 rfl node_len ?_) | fail)
      obtain ⟨WW, hWW⟩ : ∃ W, wr.alloc (.cells #[.int .i64 p, .int .i64 t, .int .i64 a0, .int .i64 a1, .int .i64 a2, .int .i64 b0, .int .i64 b1, .int .i64 b2, .int .i64 c0, .int .i64 c1, .int .i64 c2] 42) = W := ⟨_, rfl⟩
      rw [hWW] at R1 s1 ⊢
      have th := row_there s1.row j.toNat (by rw [Qt.fill_len]; have := HZ.out; omega)
      have fin := s1.step hj0 (by have := HZ.out; omega) ⟨a0, a1, a2⟩ hst
      obtain ⟨ok, hok⟩ : ∃ n, 0 + j.toNat * 3 = n := ⟨_, rfl⟩
      rw [hok] at th fin
      simp only [hok] at hvi
      have TH := Lib.hid th; have FIN := Lib.hid fin
      clear th fin hok
      have RR := Lib.hid R1
      clear hWW g1 R1 s1 hst hd
      go_wp2_with (first
        | (refine wpList_load_mid rfl 29 _ rfl wr.heap.size 2 rfl _ _ RR.out Try.underlying29 rfl vec_len ?_)
        | (refine wpList_store_mid rfl 29 _ _ rfl (w.heap.size + 1 + 1) ok #[.int .i64 a0, .int .i64 a1, .int .i64 a2] rfl rfl TH.out vec_len (one_cells a0 a1 a2) ?_)
        | fail)
      go_roundw
      case rel => exact ⟨j + 1, rfl, by omega, by omega, FIN.out⟩
      case measure => simp [intOf]; omega
    · have hrow := hd.out.row
      rw [show j.toNat = nl by have := HZ.out; omega, HF.out] at hrow
      have sl := row_sl hrow (by rw [HML.out]; omega) nl
      have hc := HSUM.out wr hd.out.low (some ⟨w.heap.size + 1 + 1, 0, none⟩) nl (w.heap.size + 1 + 1) 0 sl
      have k0 : wr.cell? ⟨w.heap.size, 0, none⟩ = some (.slice an nl cn) := hd.out.box.at_ 0
      have k1 : wr.cell? ⟨w.heap.size, 1, none⟩ = some (.slice ah hl ch) := hd.out.box.at_ 1
      have k2 : wr.cell? ⟨w.heap.size, 2, none⟩ = some (.int .i64 half) := hd.out.box.at_ 2
      have k3 : wr.cell? ⟨w.heap.size, 3, none⟩ = some (.int .i64 age) := hd.out.box.at_ 3
      have HC := Lib.hid hc; have HR := Lib.hid hd.out.res; have HLW := Lib.hid hd.out.low
      clear hrow sl hc hd
      go_wp2_with fail
      refine HC.out.mono ?_
      rintro er w2 ⟨rfl, b2⟩
      have R2 := Lib.hid (HR.out.under b2); have L2 := Lib.hid (HLW.out.trans (b2.mono HLW.out.size))
      clear b2 k0 k1 k2 k3
      obtain ⟨s1, s2, s3⟩ := S
      simp only [V3.c]
      go_wp2_with (first | (refine wpList_store_row rfl 29 _ _ rfl (w.heap.size + 1) #[.int .i64 s1, .int .i64 s2, .int .i64 s3] rfl rfl _ _ R2.out vec_len rfl (one_cells s1 s2 s3) ?_) | fail)
      refine bodyPost_ret (results_cell_row (p := 4) (by kernel_rfl) _ _ (w.heap.size + 1) _ _ _ _ rfl (R2.out.setRow _) Try.underlying29 rfl vec_len) rfl ?_
      exact ⟨rfl, below_setRow3 L2.out (by omega) _⟩

end Go.Proofs.Ytkakgjmajplgmaa
namespace Go.Proofs.Ytkakgjmajplgmaa
open Go.RowKit
set_option linter.unusedVariables false

namespace Qt
/-- Of each node but t: what it neither uses nor lends. -/
def keeps (ns : List Nd) (used : List V3) (t : Int) : List V3 := (List.range ns.length).map fun i : Nat => if (i : Int) = t then z3 else own ns used (i : Int)
theorem keeps_len (ns : List Nd) (used : List V3) (t : Int) : (keeps ns used t).length = ns.length := by simp [keeps]
theorem keeps_at (ns : List Nd) (used : List V3) (t : Int) {b : Int} (h0 : 0 ≤ b) (h1 : b < ns.length) : ath (keeps ns used t) b = if b = t then z3 else own ns used b := by
  have h : (keeps ns used t)[b.toNat]? = some (if ((b.toNat : Nat) : Int) = t then z3 else own ns used ((b.toNat : Nat) : Int)) := by rw [keeps, List.getElem?_map, List.getElem?_range (by omega), Option.map_some]
  have e := ath_some h
  rw [show ((b.toNat : Nat) : Int) = b by omega] at e
  exact e
theorem sumL_keeps (ns : List Nd) (used : List V3) (t : Int) : ∀ (r : List Int) (v : V3), In40 v → (∀ b ∈ r, 0 ≤ b ∧ b < ns.length) → sumL (keeps ns used t) v r = keptL ns used t v r
  | [], v, _, _ => rfl
  | b :: r, v, h, hb => by
    have hb0 := hb b (by simp)
    rw [sumL, keptL, keeps_at ns used t hb0.1 hb0.2]
    by_cases e : b = t
    · rw [if_pos e, if_pos e, add_zero h]
      exact sumL_keeps ns used t r v h (fun d hd => hb d (by simp [hd]))
    · rw [if_neg e, if_neg e]
      exact sumL_keeps ns used t r _ (in40_add _ _) (fun d hd => hb d (by simp [hd]))
theorem sum_keeps (ns : List Nd) (used : List V3) (n t : Int) : sum ns n (keeps ns used t) = kept ns used n t :=
  sumL_keeps ns used t _ _ ⟨rfl, rfl, rfl⟩ (fun b hb => ⟨(leaf_in (mem_below.1 hb).1).1, (leaf_in (mem_below.1 hb).1).2⟩)
end Qt

set_option maxHeartbeats 2000000 in
set_option maxRecDepth 8000 in
theorem kKept (c : Cmd) (vn vh : Value) (used : List V3) (ao : Option Addr) (cap ub uo : Nat) (n t : Int) (w : World) (h12 : c.nodes.length ≤ 12) (h : CmAt c vn vh w) (hU : Sl V3.c 26 3 w ao cap ub uo used) :
    Calls Try.prog 25 #[.agg (c.f vn vh), .slice ao used.length cap, .int .i64 n, .int .i64 t] w (RetBelow (.agg (Qt.kept c.nodes used n t).c) w) := by
  have hsum := fun w2 (g : Below w.heap.size w w2) ao cp lb lo hU => qSum c vn vh n (Qt.keeps c.nodes used t) ao cp lb lo w2 (by omega) (h.kept g) hU
  have hus := fun w2 (g : Below w.heap.size w w2) j h0 => kUsed used ao cap ub uo j w2 h0 (hU.kept g)
  rw [Qt.sum_keeps] at hsum
  obtain ⟨an, cn, nb, no, ah, ch, hb, ho, rfl, rfl, hN, _⟩ := h
  obtain ⟨S, hS⟩ : ∃ s, Qt.kept c.nodes used n t = s := ⟨_, rfl⟩
  rw [hS] at hsum ⊢
  obtain ⟨kind, ns, hosts, half, age, gg, k0⟩ := c
  simp only [Cmd.f] at *
  obtain ⟨hl, hhl⟩ : ∃ k, hosts.length = k := ⟨_, rfl⟩
  rw [hhl] at hsum ⊢
  obtain ⟨ul, hul⟩ : ∃ k, used.length = k := ⟨_, rfl⟩
  rw [hul] at hus ⊢
  have hNi := hN.idx
  have n63 := hN.small
  have hml := Qt.keeps_len ns used t
  have hmi : ∀ (k : Nat) x, ns[k]? = some x → Qt.ath (Qt.keeps ns used t) (k : Int) = if (k : Int) = t then Qt.z3 else Qt.pos (Qt.sub (Qt.sub x.nom x.lend) (Qt.ath used (k : Int))) := fun k x hx => by
    have hk := (List.getElem?_eq_some_iff.1 hx).1
    rw [Qt.keeps_at ns used t (by omega) (by omega)]
    unfold Qt.own Qt.nd
    rw [List.getD_eq_getElem?_getD, show ((k : Int)).toNat = k by omega, hx]
    rfl
  have hmk := make_now ((w.alloc (.cells #[.slice an ns.length cn, .slice ah hl ch, .int .i64 half, .int .i64 age] 25)).alloc (.cells #[.int .i64 0, .int .i64 0, .int .i64 0] 29)) ns.length h12
  obtain ⟨M, hM⟩ : ∃ m, Qt.keeps ns used t = m := ⟨_, rfl⟩
  have hful := Qt.fill_full M
  rw [hM] at hsum hml hmi
  rw [hml] at hsum hful
  have so0 : NoTo w #[.slice an ns.length cn, .slice ah hl ch, .int .i64 half, .int .i64 age] M ns.length 0 (((w.alloc (.cells #[.slice an ns.length cn, .slice ah hl ch, .int .i64 half, .int .i64 age] 25)).alloc (.cells #[.int .i64 0, .int .i64 0, .int .i64 0] 29)).alloc (.cells (cellsOf V3.c (List.replicate ns.length Qt.z3)).toArray 29)) := by
    have rA := ((Row.new w #[.slice an ns.length cn, .slice ah hl ch, .int .i64 half, .int .i64 age] 25).under ((Below.refl _ _).alloc (Nat.le_refl _) (.cells #[.int .i64 0, .int .i64 0, .int .i64 0] 29))).under ((Below.refl _ _).alloc (Nat.le_refl _) (.cells (cellsOf V3.c (List.replicate ns.length Qt.z3)).toArray 29))
    have rB := (Row.new (w.alloc (.cells #[.slice an ns.length cn, .slice ah hl ch, .int .i64 half, .int .i64 age] 25)) #[.int .i64 0, .int .i64 0, .int .i64 0] 29).under ((Below.refl _ _).alloc (Nat.le_refl _) (.cells (cellsOf V3.c (List.replicate ns.length Qt.z3)).toArray 29))
    have rC := Row.new ((w.alloc (.cells #[.slice an ns.length cn, .slice ah hl ch, .int .i64 half, .int .i64 age] 25)).alloc (.cells #[.int .i64 0, .int .i64 0, .int .i64 0] 29)) (cellsOf V3.c (List.replicate ns.length Qt.z3)).toArray 29
    simp only [World.size_alloc] at rA rB rC
    exact ⟨by rw [show (0 : Int).toNat = 0 from rfl, Qt.fill_zero]; exact rC, rA, rB, (((Below.refl _ w).alloc (Nat.le_refl _) _).alloc (by simp) _).alloc (by simp; omega) _⟩
  obtain ⟨W3, hW3⟩ : ∃ V, ((w.alloc (.cells #[.slice an ns.length cn, .slice ah hl ch, .int .i64 half, .int .i64 age] 25)).alloc (.cells #[.int .i64 0, .int .i64 0, .int .i64 0] 29)).alloc (.cells (cellsOf V3.c (List.replicate ns.length Qt.z3)).toArray 29) = V := ⟨_, rfl⟩
  have q0 : W3.cell? ⟨w.heap.size, 0, none⟩ = some (.slice an ns.length cn) := by rw [← hW3]; exact so0.box.at_ 0
  rw [hW3] at hmk so0
  simp only [World.size_alloc] at hmk
  have hvi := fun (i : Nat) (hi : i < ns.length) w0 => vec_idx (w.heap.size + 1 + 1) ns.length ns.length i hi w0
  obtain ⟨nl, hnl⟩ : ∃ n, ns.length = n := ⟨_, rfl⟩
  rw [hnl] at hsum hNi n63 so0 hml hmk hvi hful q0 ⊢
  obtain ⟨zn, hzn⟩ : ∃ z : Int, (nl : Int) = z := ⟨_, rfl⟩
  rw [hzn] at hmk
  have HSUM := Lib.hid hsum; have HNI := Lib.hid hNi; have HN := Lib.hid hN; have HL := Lib.hid hnl; have HZ := Lib.hid hzn; have S0 := Lib.hid so0; have HML := Lib.hid hml; have HMI := Lib.hid hmi; have HVI := Lib.hid hvi; have HF := Lib.hid hful; have HUS := Lib.hid hus
  clear hsum hNi hN hnl so0 hml hmi hM hS h12 hvi hful hhl hW3 hus hU hul
  go_enter Try.func25, Try.ntmps25
  go_wp2_with fail
  clear hmk q0
  go_loopw [19] (fun i wr => ∃ (j : Int), i = .int .i64 j ∧ 0 ≤ j ∧ j ≤ zn ∧ Hid (NoTo w #[.slice an nl cn, .slice ah hl ch, .int .i64 half, .int .i64 age] M nl j wr)) (fun i _ => (zn - intOf i).toNat)
  case atStart => exact ⟨0, rfl, by omega, by omega, S0.out⟩
  case round =>
    obtain ⟨j, rfl, hj0, hjz, hd⟩ := hrel
    by_cases hlt : j < zn
    · obtain ⟨x, hx⟩ : ∃ x, ns[j.toNat]? = some x := ⟨_, List.getElem?_eq_getElem (by have := HL.out; omega)⟩
      have hi := HNI.out j.toNat (by omega)
      rw [show ((j.toNat : Nat) : Int) = j by omega] at hi
      have hr := (HN.out.kept hd.out.low).at_ j.toNat x hx
      have hst := HMI.out j.toNat x hx
      rw [show ((j.toNat : Nat) : Int) = j by omega] at hst
      obtain ⟨p, tt, ⟨a0, a1, a2⟩, ⟨b0, b1, b2⟩, ⟨c0, c1, c2⟩⟩ := x
      simp only [Nd.c] at hr hst
      have HR := Lib.hid hr
      clear hr hx
      obtain ⟨oi, hoi⟩ : ∃ n, no + j.toNat * 11 = n := ⟨_, rfl⟩
      rw [hoi] at hi HR
      clear hoi
      have g1 := (Below.refl wr.heap.size wr).alloc (Nat.le_refl _) (.cells #[.int .i64 p, .int .i64 tt, .int .i64 a0, .int .i64 a1, .int .i64 a2, .int .i64 b0, .int .i64 b1, .int .i64 b2, .int .i64 c0, .int .i64 c1, .int .i64 c2] 42)
      have R1 := row_range (Row.new wr #[.int .i64 p, .int .i64 tt, .int .i64 a0, .int .i64 a1, .int .i64 a2, .int .i64 b0, .int .i64 b1, .int .i64 b2, .int .i64 c0, .int .i64 c1, .int .i64 c2] 42) 2 [.int .i64 a0, .int .i64 a1, .int .i64 a2] (by
        intro j v hj
        rcases j with _ | _ | _ | j
        · exact hj
        · exact hj
        · exact hj
        · simp at hj)
      have R2 := row_range (Row.new wr #[.int .i64 p, .int .i64 tt, .int .i64 a0, .int .i64 a1, .int .i64 a2, .int .i64 b0, .int .i64 b1, .int .i64 b2, .int .i64 c0, .int .i64 c1, .int .i64 c2] 42) 8 [.int .i64 c0, .int .i64 c1, .int .i64 c2] (by
        intro j v hj
        rcases j with _ | _ | _ | j
        · exact hj
        · exact hj
        · exact hj
        · simp at hj)
      have s1 := hd.out.later g1
      have hvi := HVI.out j.toNat (by have := HZ.out; omega)
      rw [show ((j.toNat : Nat) : Int) = j by omega] at hvi
      obtain ⟨ok, hok⟩ : ∃ n, 0 + j.toNat * 3 = n := ⟨_, rfl⟩
      simp only [hok] at hvi
      have HOK := Lib.hid hok
      clear hok
      go_upto_region 5 with (first | (refine wpList_load_mid rfl 42 _ rfl nb oi rfl _ _ HR.out Try.underlying42 rfl node_len ?_) | fail)
      obtain ⟨WW, hWW⟩ : ∃ W, wr.alloc (.cells #[.int .i64 p, .int .i64 tt, .int .i64 a0, .int .i64 a1, .int .i64 a2, .int .i64 b0, .int .i64 b1, .int .i64 b2, .int .i64 c0, .int .i64 c1, .int .i64 c2] 42) = W := ⟨_, rfl⟩
      rw [hWW] at R1 R2 s1 ⊢
      clear hWW g1
      by_cases hjt : j = t
      · rw [if_pos hjt] at hst
        have FIN := Lib.hid (s1.pass hj0 (by have := HZ.out; omega) hst)
        subst hjt
        clear R1 R2 s1 hst hd
        go_wp2_with fail
        go_roundw
        case rel => exact ⟨j + 1, rfl, by omega, by omega, FIN.out⟩
        case measure => simp [intOf]; omega
      · rw [if_neg hjt] at hst
        obtain ⟨D1, hD1⟩ : ∃ d, Qt.sub ⟨a0, a1, a2⟩ ⟨c0, c1, c2⟩ = d := ⟨_, rfl⟩
        obtain ⟨u, hu⟩ : ∃ u, Qt.ath used j = u := ⟨_, rfl⟩
        obtain ⟨D2, hD2⟩ : ∃ d, Qt.sub D1 u = d := ⟨_, rfl⟩
        obtain ⟨D3, hD3⟩ : ∃ d, Qt.pos D2 = d := ⟨_, rfl⟩
        have c1' := fun w => kSub3 ⟨a0, a1, a2⟩ ⟨c0, c1, c2⟩ w
        have c2' := fun w2 g => HUS.out w2 g j hj0
        have c3' := fun w => kSub3 D1 u w
        have c4' := fun w => kAbove D2 w
        rw [hD1] at c1'
        simp only [hu] at c2'
        rw [hD2] at c3'
        rw [hD3] at c4'
        rw [hD1, hu, hD2, hD3] at hst
        obtain ⟨d1, d2, d3⟩ := D1
        obtain ⟨u1, u2, u3⟩ := u
        obtain ⟨e1, e2, e3⟩ := D2
        obtain ⟨f1, f2, f3⟩ := D3
        simp only [V3.c] at c2'
        have hne : (j == t) = false := by simpa using hjt
        have hne' : (j != t) = true := by simpa using hjt
        have hne2 : ¬ j = t := hjt
        have C1 := Lib.hid c1'; have C2 := Lib.hid c2'; have C3 := Lib.hid c3'; have C4 := Lib.hid c4'; have RR1 := Lib.hid R1; have RR2 := Lib.hid R2; have SS := Lib.hid s1; have HST := Lib.hid hst
        clear c1' c2' c3' c4' R1 R2 s1 hst hd hD1 hD2 hD3 hu hjt
        go_wp2_with (first
          | (refine wpList_load_mid rfl 29 _ rfl wr.heap.size 2 rfl _ _ RR1.out Try.underlying29 rfl vec_len ?_)
          | (refine wpList_load_mid rfl 29 _ rfl wr.heap.size 8 rfl _ _ RR2.out Try.underlying29 rfl vec_len ?_)
          | fail)
        refine (C1.out _).mono ?_
        rintro er w2 ⟨rfl, k2⟩
        have S2 := Lib.hid (SS.out.later k2)
        clear k2
        go_wp2_with fail
        refine (C2.out _ S2.out.low).mono ?_
        rintro er w3 ⟨rfl, k3⟩
        have S3 := Lib.hid (S2.out.later k3)
        clear k3
        go_wp2_with fail
        refine (C3.out _).mono ?_
        rintro er w4 ⟨rfl, k4⟩
        have S4 := Lib.hid (S3.out.later k4)
        clear k4
        go_wp2_with fail
        refine (C4.out _).mono ?_
        rintro er w5 ⟨rfl, k5⟩
        have s5 := S4.out.later k5
        have th := row_there s5.row j.toNat (by rw [Qt.fill_len]; have := HZ.out; omega)
        have fin := s5.step hj0 (by have := HZ.out; omega) ⟨f1, f2, f3⟩ HST.out
        rw [HOK.out] at th fin
        have TH := Lib.hid th; have FIN := Lib.hid fin
        clear k5 s5 th fin
        go_wp2_with (first
          | (refine wpList_store_mid rfl 29 _ _ rfl (w.heap.size + 1 + 1) ok #[.int .i64 f1, .int .i64 f2, .int .i64 f3] rfl rfl TH.out vec_len (one_cells f1 f2 f3) ?_)
          | fail)
        go_roundw
        case rel => exact ⟨j + 1, rfl, by omega, by omega, FIN.out⟩
        case measure => simp [intOf]; omega
    · have hrow := hd.out.row
      rw [show j.toNat = nl by have := HZ.out; omega, HF.out] at hrow
      have sl := row_sl hrow (by rw [HML.out]; omega) nl
      have hc := HSUM.out wr hd.out.low (some ⟨w.heap.size + 1 + 1, 0, none⟩) nl (w.heap.size + 1 + 1) 0 sl
      have k0 : wr.cell? ⟨w.heap.size, 0, none⟩ = some (.slice an nl cn) := hd.out.box.at_ 0
      have k1 : wr.cell? ⟨w.heap.size, 1, none⟩ = some (.slice ah hl ch) := hd.out.box.at_ 1
      have k2 : wr.cell? ⟨w.heap.size, 2, none⟩ = some (.int .i64 half) := hd.out.box.at_ 2
      have k3 : wr.cell? ⟨w.heap.size, 3, none⟩ = some (.int .i64 age) := hd.out.box.at_ 3
      have HC := Lib.hid hc; have HR := Lib.hid hd.out.res; have HLW := Lib.hid hd.out.low
      clear hrow sl hc hd
      go_wp2_with fail
      refine HC.out.mono ?_
      rintro er w2 ⟨rfl, b2⟩
      have R2 := Lib.hid (HR.out.under b2); have L2 := Lib.hid (HLW.out.trans (b2.mono HLW.out.size))
      clear b2 k0 k1 k2 k3
      obtain ⟨s1, s2, s3⟩ := S
      simp only [V3.c]
      go_wp2_with (first | (refine wpList_store_row rfl 29 _ _ rfl (w.heap.size + 1) #[.int .i64 s1, .int .i64 s2, .int .i64 s3] rfl rfl _ _ R2.out vec_len rfl (one_cells s1 s2 s3) ?_) | fail)
      refine bodyPost_ret (results_cell_row (p := 8) (by kernel_rfl) _ _ (w.heap.size + 1) _ _ _ _ rfl (R2.out.setRow _) Try.underlying29 rfl vec_len) rfl ?_
      exact ⟨rfl, below_setRow3 L2.out (by omega) _⟩

end Go.Proofs.Ytkakgjmajplgmaa
namespace Go.Proofs.Ytkakgjmajplgmaa
open Go.RowKit
set_option linter.unusedVariables false

section
variable {P : Program} {ops : Array Oper} {Q : Exit → Act → World → Prop} {md : Region.Mode} {S : World → Prop} {k : Nat}

/-- Whatever order is picked from here on; S holds behind each operation till number k has come up. -/
def wpAnyB (P : Program) (md : Region.Mode) (ops : Array Oper) (Q : Exit → Act → World → Prop) (S : World → Prop) (k : Nat) : Nat → Array Bool → Act → World → Prop
  | 0, listed, a, w => Region.ready md ops listed = [] ∧ Q .normal a w
  | fuel + 1, listed, a, w =>
    (Region.ready md ops listed = [] → Q .normal a w) ∧
    ∀ i ∈ Region.ready md ops listed, wpOp P ops Q i (fun a' w' => ((listed.setIfInBounds i true).getD k false = true ∨ S w') ∧ wpAnyB P md ops Q S k fuel (listed.setIfInBounds i true) a' w') a w

theorem wpAny_of_barr : ∀ (fuel : Nat) (listed : Array Bool) (a : Act) (w : World), wpAnyB P md ops Q S k fuel listed a w → wpAny P md ops Q fuel listed a w
  | 0, _, _, _, h => h
  | fuel + 1, _, _, _, h => ⟨h.1, fun i hi => wpOp_mono (fun a' w' h' => wpAny_of_barr fuel _ a' w' h'.2) (h.2 i hi)⟩

theorem getD_far {l : Array Bool} {i k : Nat} (h : i ≠ k) : (l.setIfInBounds i true).getD k false = l.getD k false := getD_set_ne false h

/-- What yields in whatever world may be taken first. -/
theorem wpAnyB_first {i : Nat} {oi : Oper} {v : Value} (hik : i ≠ k) (hi : ops[i]? = some oi) (hsel : ∀ (j : Nat) (o : Oper) cs b, ops[j]? = some o → o.op ≠ .select cs b)
    (hQ : ∀ c a w, Q (.panic c) (a.put oi.dst v) w → Q (.panic c) a w) :
    ∀ (fuel : Nat) (listed : Array Bool) (a : Act) (w : World),
      (∀ j oj, ops[j]? = some oj → j ≠ i → listed.getD j true = false → (∀ e ∈ oj.after, Region.binds md e = true → e.on ≠ i) → oi.apart ops oj = true) →
      i ∈ Region.ready md ops listed → YieldsIf P ops (fun _ => True) oi v a → (listed.getD k false = true ∨ S w) →
      wpAnyB P md ops Q S k fuel (listed.setIfInBounds i true) (a.put oi.dst v) w → wpAnyB P md ops Q S k (fuel + 1) listed a w := by
  intro fuel
  induction fuel with
  | zero =>
    intro listed a w _ hr hy hS H
    refine ⟨fun h => (by rw [h] at hr; cases hr), fun j hj => ?_⟩
    by_cases hji : j = i
    · subst hji; exact hy.wpOp hi trivial ⟨by rw [getD_far hik]; exact hS, H⟩
    · have := ready_mono hj hji
      rw [H.1] at this
      cases this
  | succ fuel ih =>
    intro listed a w hfree hr hy hS H
    refine ⟨fun h => (by rw [h] at hr; cases hr), fun j hj => ?_⟩
    by_cases hji : j = i
    · subst hji; exact hy.wpOp hi trivial ⟨by rw [getD_far hik]; exact hS, H⟩
    · have h1 := H.2 j (ready_mono hj hji)
      obtain ⟨hjun, oj, hoj, hall⟩ := mem_ready.1 hj
      have hnot : ∀ e ∈ oj.after, Region.binds md e = true → e.on ≠ i := fun e he hb heq => by
        have h1 := hall e he hb
        have h0 := (mem_ready.1 hr).1
        rw [heq] at h1
        rcases Nat.lt_or_ge i listed.size with h' | h'
        · simp [h'] at h0 h1; rw [h0] at h1; cases h1
        · simp [Array.getElem?_eq_none h'] at h1
      have h2 := wpOp_putIf hoj (hfree j oj hoj hji hjun hnot) (fun cs b => hsel i oi cs b hi) (fun cs b => hsel j oj cs b hoj) hQ hy h1
      have hfree' : ∀ q ok, ops[q]? = some ok → q ≠ i → (listed.setIfInBounds j true).getD q true = false →
          (∀ e ∈ ok.after, Region.binds md e = true → e.on ≠ i) → oi.apart ops ok = true := fun q ok hk hki hun hno => by
        refine hfree q ok hk hki ?_ hno
        by_cases hjk : j = q
        · subst hjk; exact hjun
        · rw [getD_set_ne true hjk] at hun; exact hun
      refine wpOp_mono (fun a' w' h3 => ?_) h2
      have h4 : (listed.setIfInBounds j true).getD k false = true ∨ S w' := by
        have := h3.2.1
        rwa [Array.setIfInBounds_comm _ _ (Ne.symm hji), getD_far hik] at this
      refine ⟨h4, ih (listed.setIfInBounds j true) a' w' hfree' (ready_mono hr (Ne.symm hji)) h3.1 h4 ?_⟩
      rw [Array.setIfInBounds_comm _ _ hji]
      exact h3.2.2

/-- What yields in every world that meets S may be taken first, if number k waits for it. -/
theorem wpAnyB_firstS {i : Nat} {oi : Oper} {v : Value} (hik : i ≠ k) (hi : ops[i]? = some oi) (hsel : ∀ (j : Nat) (o : Oper) cs b, ops[j]? = some o → o.op ≠ .select cs b)
    (hw : ∃ ok, ops[k]? = some ok ∧ ∃ e ∈ ok.after, Region.binds md e = true ∧ e.on = i)
    (hQ : ∀ c a w, Q (.panic c) (a.put oi.dst v) w → Q (.panic c) a w) :
    ∀ (fuel : Nat) (listed : Array Bool) (a : Act) (w : World),
      (∀ j oj, ops[j]? = some oj → j ≠ i → listed.getD j true = false → (∀ e ∈ oj.after, Region.binds md e = true → e.on ≠ i) → oi.apart ops oj = true) →
      i ∈ Region.ready md ops listed → listed.getD k false = false → YieldsIf P ops S oi v a → S w →
      wpAnyB P md ops Q S k fuel (listed.setIfInBounds i true) (a.put oi.dst v) w → wpAnyB P md ops Q S k (fuel + 1) listed a w := by
  intro fuel
  induction fuel with
  | zero =>
    intro listed a w _ hr _ hy hS H
    refine ⟨fun h => (by rw [h] at hr; cases hr), fun j hj => ?_⟩
    by_cases hji : j = i
    · subst hji; exact hy.wpOp hi hS ⟨.inr hS, H⟩
    · have := ready_mono hj hji
      rw [H.1] at this
      cases this
  | succ fuel ih =>
    intro listed a w hfree hr hb hy hS H
    refine ⟨fun h => (by rw [h] at hr; cases hr), fun j hj => ?_⟩
    by_cases hji : j = i
    · subst hji; exact hy.wpOp hi hS ⟨.inr hS, H⟩
    · have h1 := H.2 j (ready_mono hj hji)
      obtain ⟨hjun, oj, hoj, hall⟩ := mem_ready.1 hj
      have hnot : ∀ e ∈ oj.after, Region.binds md e = true → e.on ≠ i := fun e he hb heq => by
        have h1 := hall e he hb
        have h0 := (mem_ready.1 hr).1
        rw [heq] at h1
        rcases Nat.lt_or_ge i listed.size with h' | h'
        · simp [h'] at h0 h1; rw [h0] at h1; cases h1
        · simp [Array.getElem?_eq_none h'] at h1
      have hjk0 : j ≠ k := by
        rintro rfl
        obtain ⟨ok, hk, e, he, hbd, hon⟩ := hw
        rw [hoj] at hk
        injection hk with hk
        subst hk
        exact hnot e he hbd hon
      have h2 := wpOp_putIf hoj (hfree j oj hoj hji hjun hnot) (fun cs b => hsel i oi cs b hi) (fun cs b => hsel j oj cs b hoj) hQ hy h1
      have hfree' : ∀ q ok, ops[q]? = some ok → q ≠ i → (listed.setIfInBounds j true).getD q true = false →
          (∀ e ∈ ok.after, Region.binds md e = true → e.on ≠ i) → oi.apart ops ok = true := fun q ok hk hki hun hno => by
        refine hfree q ok hk hki ?_ hno
        by_cases hjk : j = q
        · subst hjk; exact hjun
        · rw [getD_set_ne true hjk] at hun; exact hun
      refine wpOp_mono (fun a' w' h3 => ?_) h2
      have h4 : S w' := by
        rcases h3.2.1 with h | h
        · rw [getD_far hjk0, getD_far hik, hb] at h; cases h
        · exact h
      refine ⟨.inr h4, ih (listed.setIfInBounds j true) a' w' hfree' (ready_mono hr (Ne.symm hji)) (by rw [getD_far hjk0]; exact hb) h3.1 h4 ?_⟩
      rw [Array.setIfInBounds_comm _ _ hji]
      exact h3.2.2

/-- The moves: operation i, told by the list, is taken first; the load; the one that comes up; the end; the beginning. -/
theorem barr_take {l rest : List Oper} {o : Oper} {v : Value} {fuel : Nat} {listed : Array Bool} {a : Act} {w : World} (i : Nat) (hl : l.drop i = o :: rest) (hik : i ≠ k) (hs : Region.noSelect l.toArray = true) (hf : Region.free .any l.toArray listed i = true) (hr : (Region.ready .any l.toArray listed).contains i = true)
    (hQ : ∀ c a w, Q (.panic c) (a.put o.dst v) w → Q (.panic c) a w) (hy : YieldsIf P l.toArray (fun _ => True) o v a) (hS : listed.getD k false = true ∨ S w) (h : wpAnyB P .any l.toArray Q S k fuel (listed.setIfInBounds i true) (a.put o.dst v) w) : wpAnyB P .any l.toArray Q S k (fuel + 1) listed a w := by
  have hi : l.toArray[i]? = some o := by have := congrArg (fun x => x[0]?) hl; simpa [List.getElem?_drop] using this
  exact wpAnyB_first hik hi (Region.noSelect_spec hs) hQ fuel listed a w (Region.free_spec hi hf) (by simpa using hr) hy hS h
theorem barr_load {l rest : List Oper} {o : Oper} {v : Value} {fuel : Nat} {listed : Array Bool} {a : Act} {w : World} (i : Nat) (hl : l.drop i = o :: rest) (hik : i ≠ k) (hs : Region.noSelect l.toArray = true) (hf : Region.free .any l.toArray listed i = true) (hr : (Region.ready .any l.toArray listed).contains i = true)
    (hw : (l.toArray[k]?.map fun o => o.after.any fun e => Region.binds .any e && e.on == i) = some true) (hb : listed.getD k false = false)
    (hQ : ∀ c a w, Q (.panic c) (a.put o.dst v) w → Q (.panic c) a w) (hy : YieldsIf P l.toArray S o v a) (hS : S w) (h : wpAnyB P .any l.toArray Q S k fuel (listed.setIfInBounds i true) (a.put o.dst v) w) : wpAnyB P .any l.toArray Q S k (fuel + 1) listed a w := by
  have hi : l.toArray[i]? = some o := by have := congrArg (fun x => x[0]?) hl; simpa [List.getElem?_drop] using this
  refine wpAnyB_firstS hik hi (Region.noSelect_spec hs) ?_ hQ fuel listed a w (Region.free_spec hi hf) (by simpa using hr) hb hy hS h
  obtain ⟨ok, hk, hx⟩ := Option.map_eq_some_iff.1 hw
  obtain ⟨e, he, hx⟩ := Array.any_eq_true'.1 hx
  simp only [Bool.and_eq_true, beq_iff_eq] at hx
  exact ⟨ok, hk, e, he, hx.1, hx.2⟩
theorem barr_step {l rest : List Oper} {o : Oper} {fuel : Nat} {listed : Array Bool} {a : Act} {w : World} (i : Nat) (hl : l.drop i = o :: rest) (hr : Region.ready .any l.toArray listed = [i])
    (h : ∀ K' : Act → World → Prop, Shut (∀ a w, ((listed.setIfInBounds i true).getD k false = true ∨ S w) → wpAnyB P .any l.toArray Q S k fuel (listed.setIfInBounds i true) a w → K' a w) → if Region.wanted o (yielded l.toArray a.tmps) = true then Oper.wp P o a w K' Q else K' (a.put o.dst undef) w) : wpAnyB P .any l.toArray Q S k (fuel + 1) listed a w := by
  have hi : l.toArray[i]? = some o := by have := congrArg (fun x => x[0]?) hl; simpa [List.getElem?_drop] using this
  refine ⟨fun h0 => (by rw [hr] at h0; cases h0), fun j hj => ?_⟩
  rw [hr, List.mem_singleton] at hj
  subst hj
  exact wpOp_step hi (fun K' hK => h K' (fun a w hS hW => hK a w ⟨hS, hW⟩))
/-- Two that may come up next: either way. -/
theorem barr_two {l ri rj : List Oper} {oi oj : Oper} {fuel : Nat} {listed : Array Bool} {a : Act} {w : World} (i j : Nat) (hli : l.drop i = oi :: ri) (hlj : l.drop j = oj :: rj) (hr : Region.ready .any l.toArray listed = [i, j])
    (hi : ∀ K' : Act → World → Prop, Shut (∀ a w, ((listed.setIfInBounds i true).getD k false = true ∨ S w) → wpAnyB P .any l.toArray Q S k fuel (listed.setIfInBounds i true) a w → K' a w) → if Region.wanted oi (yielded l.toArray a.tmps) = true then Oper.wp P oi a w K' Q else K' (a.put oi.dst undef) w)
    (hj : ∀ K' : Act → World → Prop, Shut (∀ a w, ((listed.setIfInBounds j true).getD k false = true ∨ S w) → wpAnyB P .any l.toArray Q S k fuel (listed.setIfInBounds j true) a w → K' a w) → if Region.wanted oj (yielded l.toArray a.tmps) = true then Oper.wp P oj a w K' Q else K' (a.put oj.dst undef) w) : wpAnyB P .any l.toArray Q S k (fuel + 1) listed a w := by
  have ei : l.toArray[i]? = some oi := by have := congrArg (fun x => x[0]?) hli; simpa [List.getElem?_drop] using this
  have ej : l.toArray[j]? = some oj := by have := congrArg (fun x => x[0]?) hlj; simpa [List.getElem?_drop] using this
  refine ⟨fun h0 => (by rw [hr] at h0; cases h0), fun q hq => ?_⟩
  rw [hr] at hq
  rcases List.mem_cons.1 hq with rfl | hq
  · exact wpOp_step ei (fun K' hK => hi K' (fun a w hS hW => hK a w ⟨hS, hW⟩))
  · rw [List.mem_singleton] at hq
    subst hq
    exact wpOp_step ej (fun K' hK => hj K' (fun a w hS hW => hK a w ⟨hS, hW⟩))
/-- Three that may come up next. -/
theorem barr_three {l ri rj rm : List Oper} {oi oj om : Oper} {fuel : Nat} {listed : Array Bool} {a : Act} {w : World} (i j m : Nat) (hli : l.drop i = oi :: ri) (hlj : l.drop j = oj :: rj) (hlm : l.drop m = om :: rm) (hr : Region.ready .any l.toArray listed = [i, j, m])
    (hi : ∀ K' : Act → World → Prop, Shut (∀ a w, ((listed.setIfInBounds i true).getD k false = true ∨ S w) → wpAnyB P .any l.toArray Q S k fuel (listed.setIfInBounds i true) a w → K' a w) → if Region.wanted oi (yielded l.toArray a.tmps) = true then Oper.wp P oi a w K' Q else K' (a.put oi.dst undef) w)
    (hj : ∀ K' : Act → World → Prop, Shut (∀ a w, ((listed.setIfInBounds j true).getD k false = true ∨ S w) → wpAnyB P .any l.toArray Q S k fuel (listed.setIfInBounds j true) a w → K' a w) → if Region.wanted oj (yielded l.toArray a.tmps) = true then Oper.wp P oj a w K' Q else K' (a.put oj.dst undef) w)
    (hm : ∀ K' : Act → World → Prop, Shut (∀ a w, ((listed.setIfInBounds m true).getD k false = true ∨ S w) → wpAnyB P .any l.toArray Q S k fuel (listed.setIfInBounds m true) a w → K' a w) → if Region.wanted om (yielded l.toArray a.tmps) = true then Oper.wp P om a w K' Q else K' (a.put om.dst undef) w) : wpAnyB P .any l.toArray Q S k (fuel + 1) listed a w := by
  have ei : l.toArray[i]? = some oi := by have := congrArg (fun x => x[0]?) hli; simpa [List.getElem?_drop] using this
  have ej : l.toArray[j]? = some oj := by have := congrArg (fun x => x[0]?) hlj; simpa [List.getElem?_drop] using this
  have em : l.toArray[m]? = some om := by have := congrArg (fun x => x[0]?) hlm; simpa [List.getElem?_drop] using this
  refine ⟨fun h0 => (by rw [hr] at h0; cases h0), fun q hq => ?_⟩
  rw [hr] at hq
  rcases List.mem_cons.1 hq with rfl | hq
  · exact wpOp_step ei (fun K' hK => hi K' (fun a w hS hW => hK a w ⟨hS, hW⟩))
  rcases List.mem_cons.1 hq with rfl | hq
  · exact wpOp_step ej (fun K' hK => hj K' (fun a w hS hW => hK a w ⟨hS, hW⟩))
  · rw [List.mem_singleton] at hq
    subst hq
    exact wpOp_step em (fun K' hK => hm K' (fun a w hS hW => hK a w ⟨hS, hW⟩))
theorem barr_done {listed : Array Bool} {a : Act} {w : World} (hr : Region.ready md ops listed = []) (h : Q .normal a w) : ∀ fuel, wpAnyB P md ops Q S k fuel listed a w
  | 0 => ⟨hr, h⟩
  | _ + 1 => ⟨fun _ => h, by rw [hr]; simp⟩
theorem wp_region_barr {id : Nat} {l : List Oper} {a : Act} {w : World} (S : World → Prop) (k : Nat) (hm : P.follows .mixedOrders = true)
    (h : wpAnyB P .any l.toArray Q S k l.toArray.size (Array.replicate l.toArray.size false) a w.drew) : (Code.region id l.toArray true).wp P Q a w :=
  wp_region_any hm (wpAny_of_barr _ _ _ _ h)
end

section
variable {P : Program} {w : World}
/-- An append by an equation of its own, as one step of a region that draws. -/
theorem step_append_by {ops : Array Oper} {o : Oper} {a : Act} {K : Act → World → Prop} {Q : Exit → Act → World → Prop} {E : Prop} (hgd : o.guard = none) (s x : Operand) (t tx : TypeId)
    (ho : o.op = .call { callee := .builtin .append, args := #[s, x], argTypes := #[t, tx] }) (vs vx v' : Value) (w' : World) (hs : a.eval s = vs) (hx : a.eval x = vx) (hr : (Builtin.append_ #[t, tx] o.type #[vs, vx]).run P w = .ok v' w')
    (h : K (a.put o.dst v') w') : if Region.wanted o (yielded ops a.tmps) = true then Oper.wp P o a w K Q else E := by
  have hw : Region.wanted o (yielded ops a.tmps) = true := by simp [Region.wanted, hgd]
  rw [if_pos hw]
  unfold Oper.wp execOp
  simp only [ho, resolve, invoke, builtin, Sem.run_bind, Sem.run_pure, Result.andThen_ok, List.map_toArray, List.map_cons, List.map_nil, hs, hx, hr]
  exact h
end

section
variable {P : Program} {ops : Array Oper} {S : World → Prop}
/-- A part that is cut out, an element's place: by an equation of its own. -/
theorem yields_cut {o : Oper} {a : Act} (T : TypeId) (x : Operand) (lo hi mx : Option Operand) (v : Value) (ho : o.op = .slice T x lo hi mx) (hw : Region.wanted o (yielded ops a.tmps) = true) (vx : Value) (vl vh vm : Option Value) (hx : a.eval x = vx) (hl : lo.map a.eval = vl) (hh : hi.map a.eval = vh) (hm : mx.map a.eval = vm)
    (hr : ∀ w, (Instr.sliceAt T vx vl vh vm).run P w = .ok v w) : YieldsIf P ops S o v a :=
  .inl ⟨hw, fun w _ => by unfold execOp; simp only [ho, hx, hl, hh, hm, Sem.run_bind, Sem.run_pure, hr w, Result.andThen_ok]⟩
theorem yields_index {o : Oper} {a : Act} (T : TypeId) (x i : Operand) (v : Value) (ho : o.op = .indexAddr T x i) (hw : Region.wanted o (yielded ops a.tmps) = true) (vx vi : Value) (hx : a.eval x = vx) (hi : a.eval i = vi)
    (hr : ∀ w, (Instr.indexAt T vx vi).run P w = .ok v w) : YieldsIf P ops S o v a :=
  .inl ⟨hw, fun w _ => by unfold execOp; simp only [ho, hx, hi, Sem.run_bind, Sem.run_pure, hr w, Result.andThen_ok]⟩
end

section
variable {P : Program} {ops : Array Oper} {S : World → Prop} {w : World}
theorem yields_load {o : Oper} {a : Act} (T : TypeId) (x : Operand) (v : Value) (ho : o.op = .load T x) (hw : Region.wanted o (yielded ops a.tmps) = true) (vx : Value) (hx : a.eval x = vx)
    (hr : ∀ w, S w → (Instr.loadAt T vx).run P w = .ok v w) : YieldsIf P ops S o v a :=
  .inl ⟨hw, fun w hS => by unfold execOp; simp only [ho, hx, Sem.run_bind, Sem.run_pure, hr w hS, Result.andThen_ok]⟩
/-- A whole row stored, as one step of a region that draws. -/
theorem step_store_row {o : Oper} {a : Act} {K : Act → World → Prop} {Q : Exit → Act → World → Prop} {E : Prop} (hgd : o.guard = none) (ty : TypeId) (x y : Operand) (ho : o.op = .store ty x y)
    (g : Nat) (cells : Array Value) (hx : a.eval x = .pointer (some ⟨g, 0, none⟩)) (hy : a.eval y = .agg cells) (t : TypeId) (old : Array Value) (hg : w.heap[g]? = some (.cells old t (0, 0))) (hi : (P.info? ty).map (·.size) = some cells.size)
    (hold : old.size = cells.size) (h1 : cells.all (·.oneCell') = true) (h : K (a.put o.dst undef) (w.setRow g cells)) : if Region.wanted o (yielded ops a.tmps) = true then Oper.wp P o a w K Q else E := by
  have hw : Region.wanted o (yielded ops a.tmps) = true := by simp [Region.wanted, hgd]
  rw [if_pos hw]
  exact wp_store_row ty x y ho g cells hx hy t old hg hi hold h1 h
end

end Go.Proofs.Ytkakgjmajplgmaa
