/- Bytes that are read: the plain answer's P; a number, an amount. -/
import Derived.Test.YtpnfhcpapjomnaaCmdF
import Derived.Test.YtpnfhcpapjomnaaNumT
namespace Go.Proofs.Ytpnfhcpapjomnaa
open Go.RowKit
set_option linter.unusedVariables false

/-- All blocks that were there stand as they were, but for one. -/
structure But (b : Nat) (w w' : World) : Prop where
  os : w'.os = w.os
  tape : w'.tape = w.tape
  output : w'.output = w.output
  size : w.heap.size ≤ w'.heap.size
  block : ∀ k, k < w.heap.size → k ≠ b → w'.heap[k]? = w.heap[k]?
theorem But.refl (b : Nat) (w : World) : But b w w := ⟨rfl, rfl, rfl, Nat.le_refl _, fun _ _ _ => rfl⟩
theorem But.trans {b : Nat} {u v w : World} (h : But b u v) (g : But b v w) : But b u w :=
  ⟨g.os.trans h.os, g.tape.trans h.tape, g.output.trans h.output, Nat.le_trans h.size g.size, fun k hk hb => (g.block k (Nat.lt_of_lt_of_le hk h.size) hb).trans (h.block k hk hb)⟩
theorem But.of_below {b : Nat} {w w' : World} (g : Below w.heap.size w w') : But b w w' := ⟨g.os, g.tape, g.output, g.size, fun k hk _ => g.block k hk⟩
theorem But.alloc {b : Nat} {u w : World} (h : But b u w) (o : Obj) : But b u (w.alloc o) := h.trans (But.of_below ((Below.refl _ _).alloc (Nat.le_refl _) o))
theorem But.setCell {b : Nat} {u w : World} (h : But b u w) {p : Addr} (hp : u.heap.size ≤ p.block ∨ p.block = b) (v : Value) : But b u (w.setCell p v) :=
  ⟨h.os, h.tape, h.output, Nat.le_trans h.size (by simp), fun k hk hb => by
    rw [Below.heap_setCell w p v k (by have := h.size; omega)]
    exact h.block k hk hb⟩
theorem But.setRow {b : Nat} {u w : World} (h : But b u w) {g : Nat} (hp : u.heap.size ≤ g ∨ g = b) (cs : Array Value) : But b u (w.setRow g cs) :=
  ⟨h.os, h.tape, h.output, Nat.le_trans h.size (by simp), fun k hk hb => by
    rw [setRow_other w g k cs (by omega)]
    exact h.block k hk hb⟩
theorem But.drewN {b : Nat} {u w : World} (h : But b u w) (n : Nat) : But b u (w.drewN n) := ⟨h.os, h.tape, h.output, h.size, h.block⟩
theorem But.below {b B : Nat} {u w : World} (h : But b u w) (hB : B ≤ b) (hu : B ≤ u.heap.size) : Below B u w := ⟨h.os, h.tape, h.output, h.size, fun k hk => h.block k (by omega) (by omega)⟩

/-- A block's cells, none of them frozen. -/
def Row (w : World) (g : Nat) (cs : Array Value) (t : TypeId) : Prop := w.heap[g]? = some (.cells cs t (0, 0))
theorem Row.new (w : World) (cs : Array Value) (t : TypeId) : Row (w.alloc (.cells cs t)) w.heap.size cs t := Array.getElem?_push_size
theorem Row.lt {w : World} {g : Nat} {cs : Array Value} {t : TypeId} (h : Row w g cs t) : g < w.heap.size := lt_of_block h
theorem Row.keep {w w' : World} {b g : Nat} {cs : Array Value} {t : TypeId} (h : Row w g cs t) (k : But b w w') (hb : g ≠ b) : Row w' g cs t := (k.block g h.lt hb).trans h
theorem Row.under {w w' : World} {g : Nat} {cs : Array Value} {t : TypeId} (h : Row w g cs t) (k : Below w.heap.size w w') : Row w' g cs t := (k.block g h.lt).trans h
theorem Row.at_ {w : World} {g : Nat} {cs : Array Value} {t : TypeId} (h : Row w g cs t) (j : Nat) : w.cell? ⟨g, j, none⟩ = cs[j]? := cell_of_row _ _ _ _ _ _ h
theorem Row.soft {w : World} {g : Nat} {cs : Array Value} {t : TypeId} (h : Row w g cs t) (j : Nat) : w.frozen? ⟨g, j, none⟩ = false := by rw [frozen_of_row _ _ _ _ _ h]
theorem Row.set {w : World} {g : Nat} {cs : Array Value} {t : TypeId} (h : Row w g cs t) (j : Nat) (v : Value) : Row (w.setCell ⟨g, j, none⟩ v) g (cs.setIfInBounds j v) t := heap_setCell_same _ g j _ _ v h
theorem Row.setRow {w : World} {g : Nat} {cs : Array Value} {t : TypeId} (h : Row w g cs t) (ds : Array Value) : Row (w.setRow g ds) g ds t := setRow_heap w g cs ds t _ h
theorem Row.holds {w : World} {g : Nat} {cs : Array Value} {t : TypeId} (h : Row w g cs t) : Holds w g cs := fun j v hj => (h.at_ j).trans hj

def PAt (b : Nat) (p : Cm.St) (w : World) : Prop := Row w b #[.string p.s, .bool p.bad] 62

set_option maxHeartbeats 400000 in
theorem rNum_any (b : Nat) (p : Cm.St) (w : World) (h : PAt b p w) : Calls Try.prog 33 #[.pointer (some ⟨b, 0, none⟩)] w fun e w' => e = .returned (.int .i64 (Cm.num p).1) ∧ PAt b (Cm.num p).2 w' ∧ But b w w' := by
  obtain ⟨s, bad⟩ := p
  have hc0 : w.cell? ⟨b, 0, none⟩ = some (.string s) := h.at_ 0
  have hc1 : w.cell? ⟨b, 1, none⟩ = some (.bool bad) := h.at_ 1
  have hf0 := h.soft 0
  have hf1 := h.soft 1
  have hg := fun w => rGet_any s w
  have hrg := Nu.get_range s
  have hnum : Cm.num ⟨s, bad⟩ = if (Nu.get s).2.2 ≠ 0 ∨ bad = true then (0, ⟨s, true⟩) else (((Nu.get s).1 : Int), ⟨s.extract (Nu.get s).2.1 s.size, false⟩) := rfl
  have hcut := fun w => str_from s (Nu.get s).2.1 hrg.2.2 w
  obtain ⟨R, hR⟩ : ∃ R, Nu.get s = R := ⟨_, rfl⟩
  rw [hR] at hg hrg hnum hcut
  obtain ⟨n, k, e⟩ := R
  obtain ⟨nn, hn⟩ : ∃ x : Int, (n : Int) = x := ⟨_, rfl⟩
  obtain ⟨kk, hk⟩ : ∃ x : Int, (k : Int) = x := ⟨_, rfl⟩
  simp only [Nu.ans, hn, hk] at hg hnum hcut
  have HG := Lib.hid hg; have HN := Lib.hid hnum; have HP := Lib.hid h
  clear hg hrg hnum hR h hn hk
  go_enter Try.func33, Try.ntmps33
  go_wp2_with fail
  refine (HG.out _).mono ?_
  rintro er w1 ⟨rfl, rfl⟩
  by_cases he : e = 0
  · subst he
    cases bad
    · have hq := HN.out
      rw [if_neg (by simp)] at hq
      have HQ := Lib.hid hq; clear hq
      go_wp2_with fail
      go_ret
      rw [HQ.out]
      exact ⟨rfl, HP.out.set 0 _, (But.refl _ _).setCell (p := ⟨b, 0, none⟩) (.inr rfl) _⟩
    · have hq := HN.out
      rw [if_pos (by simp)] at hq
      have HQ := Lib.hid hq; clear hq
      go_wp2_with fail
      go_ret
      rw [HQ.out]
      exact ⟨rfl, HP.out.set 1 _, (But.refl _ _).setCell (p := ⟨b, 1, none⟩) (.inr rfl) _⟩
  · have hq := HN.out
    rw [if_pos (.inl he)] at hq
    have HQ := Lib.hid hq; clear hq
    have he' : (e != 0) = true := by simpa using he
    go_wp2_with fail
    go_ret
    rw [HQ.out]
    exact ⟨rfl, HP.out.set 1 _, (But.refl _ _).setCell (p := ⟨b, 1, none⟩) (.inr rfl) _⟩

theorem num_range (p : Cm.St) : 0 ≤ (Cm.num p).1 ∧ (Cm.num p).1 < 9223372036854775808 := by
  have h := Nu.get_range p.s
  unfold Cm.num
  split
  · simp
  · simp only; omega

theorem vec_one (x y z : Int) : (#[Value.int .i64 x, .int .i64 y, .int .i64 z].all (·.oneCell')) = true := one_cells x y z

set_option maxHeartbeats 400000 in
theorem rVecOf_any (b : Nat) (p : Cm.St) (w : World) (h : PAt b p w) : Calls Try.prog 51 #[.pointer (some ⟨b, 0, none⟩)] w fun e w' => e = .returned (.agg #[.int .i64 (Cm.vec p).1.x, .int .i64 (Cm.vec p).1.y, .int .i64 (Cm.vec p).1.z]) ∧ PAt b (Cm.vec p).2 w' ∧ But b w w' := by
  have hv : Cm.vec p = (⟨(Cm.num p).1, (Cm.num (Cm.num p).2).1, (Cm.num (Cm.num (Cm.num p).2).2).1⟩, (Cm.num (Cm.num (Cm.num p).2).2).2) := rfl
  rw [hv]
  have c0 := fun w h => rNum_any b p w h
  have c1 := fun w h => rNum_any b (Cm.num p).2 w h
  have c2 := fun w h => rNum_any b (Cm.num (Cm.num p).2).2 w h
  obtain ⟨⟨x, p1⟩, e1⟩ : ∃ r, Cm.num p = r := ⟨_, rfl⟩
  rw [e1] at c0 c1 c2 ⊢
  obtain ⟨⟨y, p2⟩, e2⟩ : ∃ r, Cm.num p1 = r := ⟨_, rfl⟩
  simp only [e2] at c0 c1 c2 ⊢
  obtain ⟨⟨z, p3⟩, e3⟩ : ∃ r, Cm.num p2 = r := ⟨_, rfl⟩
  simp only [e3] at c2 ⊢
  have C0 := Lib.hid c0; have C1 := Lib.hid c1; have C2 := Lib.hid c2; have HP := Lib.hid h
  clear c0 c1 c2 e1 e2 e3 hv h
  have hW : PAt b p (w.alloc (.cells #[.int .i64 0, .int .i64 0, .int .i64 0] 27)) := HP.out.keep (b := w.heap.size) (But.of_below ((Below.refl _ _).alloc (Nat.le_refl _) _)) (by have := HP.out.lt; omega)
  have hD := Row.new w #[.int .i64 0, .int .i64 0, .int .i64 0] 27
  have hb : w.heap.size ≠ b := by have := HP.out.lt; omega
  have HW := Lib.hid hW; have HD := Lib.hid hD; have HB := Lib.hid hb
  clear hW hD hb
  go_enter Try.func51, Try.ntmps51
  go_wp2_with fail
  refine (C0.out _ HW.out).mono ?_
  rintro er w1 ⟨rfl, h1, b1⟩
  have H1 := Lib.hid h1; have B1 := Lib.hid (((But.refl b w).alloc _).trans b1); have D1 := Lib.hid (HD.out.keep b1 HB.out)
  clear h1 b1
  go_wp2_with fail
  refine (C1.out _ H1.out).mono ?_
  rintro er w2 ⟨rfl, h2, b2⟩
  have H2 := Lib.hid h2; have B2 := Lib.hid (B1.out.trans b2); have D2 := Lib.hid (D1.out.keep b2 HB.out)
  clear h2 b2
  go_wp2_with fail
  refine (C2.out _ H2.out).mono ?_
  rintro er w3 ⟨rfl, h3, b3⟩
  have H3 := Lib.hid h3; have B3 := Lib.hid (B2.out.trans b3); have D3 := Lib.hid (D2.out.keep b3 HB.out)
  clear h3 b3
  have E3 := Lib.hid (D3.out.setRow #[.int .i64 x, .int .i64 y, .int .i64 z])
  go_wp2_with (refine wpList_store_row rfl 27 _ _ rfl w.heap.size #[.int .i64 x, .int .i64 y, .int .i64 z] rfl rfl _ _ D3.out vec_len rfl (vec_one x y z) ?_)
  refine bodyPost_ret (results_cell_row (p := 2) (by kernel_rfl) _ _ w.heap.size _ _ _ _ rfl E3.out Try.underlying27 rfl vec_len) rfl ?_
  exact ⟨rfl, (show Row _ _ _ _ from (setRow_other w3 w.heap.size b _ (fun e => HB.out e.symm)).trans H3.out), B3.out.setRow (.inl (Nat.le_refl _)) _⟩

end Go.Proofs.Ytpnfhcpapjomnaa
