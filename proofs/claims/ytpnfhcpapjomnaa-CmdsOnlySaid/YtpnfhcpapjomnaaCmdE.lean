/- The plain answer's bytes of a gang; sizes. -/
import Derived.Test.YtpnfhcpapjomnaaCmdD
namespace Go.Proofs.Ytpnfhcpapjomnaa
open Go.RowKit
set_option linter.unusedVariables false

/-- A block's cells, as they stand in a world. -/
def Holds (w : World) (b : Nat) (cs : Array Value) : Prop := ∀ (j : Nat) v, cs[j]? = some v → w.cell? ⟨b, j, none⟩ = some v
theorem Holds.new (w : World) (cs : Array Value) (t : TypeId) : Holds (w.alloc (.cells cs t)) w.heap.size cs := fun j v hj => (World.cell?_alloc_at (w := w) _ _ _ _ rfl).trans hj
theorem Holds.kept {w w' : World} {b : Nat} {cs : Array Value} (h : Holds w b cs) (hb : b < w.heap.size) (g : Below w.heap.size w w') : Holds w' b cs := fun j v hj => (g.cell (p := ⟨b, j, none⟩) hb).trans (h j v hj)

section
variable {P : Program} {ops : Array Oper} {C : World → Prop}
theorem quiet_load {Q : Act → Prop} {a : Act} {o : Oper} {rest : List Oper} (p : Value) (v : Value) (ty : TypeId) (x : Operand) (hC : ∀ w, C w → (Instr.loadAt ty p).run P w = .ok v w) (ho : o.op = .load ty x) (hx : a.eval x = p)
    (hw : Region.wanted o (yielded ops a.tmps) = true) (h : wpQuiet P ops C Q rest (a.put o.dst v)) : wpQuiet P ops C Q (o :: rest) a := by
  unfold wpQuiet
  rw [if_pos hw]
  refine ⟨v, fun w hw' => ?_, h⟩
  unfold Oper.quietAt execOp
  simp only [ho, hx, Sem.run_bind, hC w hw', Result.andThen_ok]
  exact ⟨rfl, rfl⟩
/-- A cell of a block of which every world of the class has the cells. -/
theorem quiet_hold {Q : Act → Prop} {a : Act} {o : Oper} {rest : List Oper} {b : Nat} {cs : Array Value} (hC : ∀ w, C w → Holds w b cs) (ty : TypeId) (d : TypeDesc) (hu : P.underlying ty = some d) (hd : d.isRow = false) (x : Operand) (j : Nat) (v : Value) (ho : o.op = .load ty x) (hx : a.eval x = .pointer (some ⟨b, j, none⟩)) (hj : cs[j]? = some v)
    (hw : Region.wanted o (yielded ops a.tmps) = true) (h : wpQuiet P ops C Q rest (a.put o.dst v)) : wpQuiet P ops C Q (o :: rest) a :=
  quiet_cell _ v ty d x (fun w hw' => hC w hw' j v hj) ho hx hw hu hd h
/-- Three cells of it, as one value. -/
theorem quiet_hold3 {Q : Act → Prop} {a : Act} {o : Oper} {rest : List Oper} {b : Nat} {cs : Array Value} (hC : ∀ w, C w → Holds w b cs) (ty : TypeId) (d : TypeDesc) (hu : P.underlying ty = some d) (hd : d.isRow = true) (hi : (P.info? ty).map (·.size) = some 3) (x : Operand) (j : Nat) (v0 v1 v2 : Value) (ho : o.op = .load ty x) (hx : a.eval x = .pointer (some ⟨b, j, none⟩)) (h0 : cs[j]? = some v0) (h1 : cs[j + 1]? = some v1) (h2 : cs[j + 2]? = some v2)
    (hw : Region.wanted o (yielded ops a.tmps) = true) (h : wpQuiet P ops C Q rest (a.put o.dst (.agg #[v0, v1, v2]))) : wpQuiet P ops C Q (o :: rest) a :=
  quiet_load _ (.agg #[v0, v1, v2]) ty x (fun w hw' => run_loadAt_mid w b j ty [v0, v1, v2] d (fun k v hk => hC w hw' (j + k) v (three_at h0 h1 h2 k v hk)) hu hd hi) ho hx hw h
end
theorem vec_len : (Try.prog.info? 27).map (·.size) = some 3 := by kernel_rfl

namespace Cm
theorem pn_size (x : Int) (h : x < 9223372036854775808) : (pn x).size ≤ 9 := (Nu.put_size x.toNat (by omega)).2
theorem ok_lt {x : Int} (h : ok x = true) : x < 9223372036854775808 := by rw [ok_iff] at h; omega
theorem pv_size {v : V3} (h : okV v = true) : (pv v).size ≤ 27 := by
  simp only [okV, Bool.and_eq_true] at h
  have h0 := pn_size _ (ok_lt h.1.1); have h1 := pn_size _ (ok_lt h.1.2); have h2 := pn_size _ (ok_lt h.2)
  unfold pv
  rw [ByteArray.size_append, ByteArray.size_append]; omega
theorem pN_size {n : Nd} (h : okN n = true) : (pN n).size ≤ 99 := by
  simp only [okN, Bool.and_eq_true, okP_iff] at h
  have h0 := pn_size (n.par + 1) (by have := h.1.1.1.1; omega); have h1 := pn_size _ (ok_lt h.1.1.1.2); have h2 := pv_size h.1.1.2; have h3 := pv_size h.1.2; have h4 := pv_size h.2
  unfold pN
  rw [ByteArray.size_append, ByteArray.size_append, ByteArray.size_append, ByteArray.size_append]; omega
theorem pH_size {n : Hs} (h : okH n = true) : (pH n).size ≤ 54 := by
  simp only [okH, Bool.and_eq_true] at h
  have h0 := pn_size _ (ok_lt h.1.1.1); have h1 := pn_size _ (ok_lt h.1.1.2); have h2 := pn_size _ (ok_lt h.1.2); have h4 := pv_size h.2
  unfold pH
  rw [ByteArray.size_append, ByteArray.size_append, ByteArray.size_append]; omega
theorem pG_size {g : Gg} (h : okG g = true) : (pG g).size ≤ 81 := by
  simp only [okG, Bool.and_eq_true] at h
  have h0 := pn_size _ (ok_lt h.1.1.1.1.1.1); have h1 := pn_size _ (ok_lt h.1.1.1.1.1.2); have h2 := pn_size _ (ok_lt h.1.1.1.1.2); have h3 := pn_size _ (ok_lt h.1.1.1.2); have h4 := pn_size _ (ok_lt h.1.1.2); have h5 := pn_size _ (ok_lt h.1.2); have h6 := pv_size h.2
  unfold pG
  simp only [ByteArray.size_append]; omega
theorem cat_size {α : Type} (q : α → ByteArray) (o : α → Bool) (m : Nat) (h : ∀ x, o x = true → (q x).size ≤ m) (r : ByteArray) : ∀ l : List α, l.all o = true → (cat q l r).size ≤ l.length * m + r.size
  | [], _ => by simp [cat]
  | x :: l, hl => by
    simp only [List.all_cons, Bool.and_eq_true] at hl
    have ih := cat_size q o m h r l hl.2
    have hx := h x hl.1
    rw [cat, ByteArray.size_append, List.length_cons, Nat.succ_mul]; omega
theorem pC_size {c : Cmd} (h : okC c = true) (hn : c.nodes.length ≤ 12) (hh : c.hosts.length ≤ 24) : (pC c).size ≤ 2600 := by
  simp only [okC, Bool.and_eq_true] at h
  have h1 := pn_size _ (ok_lt h.1.2); have h2 := pn_size _ (ok_lt h.2)
  have h3 := pn_size (c.nodes.length : Int) (by omega); have h4 := pn_size (c.hosts.length : Int) (by omega)
  have h5 := cat_size pH okH 54 (fun x hx => pH_size hx) (pn c.half ++ pn c.age) c.hosts h.1.1.2
  have h6 := cat_size pN okN 99 (fun x hx => pN_size hx) (pn c.hosts.length ++ cat pH c.hosts (pn c.half ++ pn c.age)) c.nodes h.1.1.1
  unfold pC
  rw [ByteArray.size_append] at h5 ⊢
  rw [ByteArray.size_append] at h6
  omega
end Cm

/-- A bound, and the bytes as a value. -/
theorem rPn_any (x : Int) (h : x < 9223372036854775808) (w : World) : Calls Try.prog 43 #[.int .i64 x] w (RetBelow (.string (Cm.pn x)) w) := rPut_any x h w
theorem rPv_any (v : V3) (h : Cm.okV v = true) (w : World) : Calls Try.prog 44 #[.agg #[.int .i64 v.x, .int .i64 v.y, .int .i64 v.z]] w (RetBelow (.string (Cm.pv v)) w) := by
  simp only [Cm.okV, Bool.and_eq_true] at h
  have h0 := Cm.ok_lt h.1.1; have h1 := Cm.ok_lt h.1.2; have h2 := Cm.ok_lt h.2
  exact rPutVec_any (tri v.x v.y v.z) (fun i hi => by
    have e : i = 0 ∨ i = 1 ∨ i = 2 := by omega
    rcases e with rfl | rfl | rfl
    · exact h0
    · exact h1
    · exact h2) w

set_option maxHeartbeats 1000000 in
set_option maxRecDepth 8000 in
theorem rPutGang_any (g : Gg) (hg : Cm.okG g = true) (w : World) : Calls Try.prog 45 #[.agg g.c] w (RetBelow (.string (Cm.pG g)) w) := by
  have hk := hg
  simp only [Cm.okG, Bool.and_eq_true] at hk
  have c0 := fun w => rPn_any g.id (Cm.ok_lt hk.1.1.1.1.1.1) w
  have c1 := fun w => rPn_any g.ten (Cm.ok_lt hk.1.1.1.1.1.2) w
  have c2 := fun w => rPn_any g.pods (Cm.ok_lt hk.1.1.1.1.2) w
  have c3 := fun w => rPv_any g.need hk.2 w
  have c4 := fun w => rPn_any g.run (Cm.ok_lt hk.1.1.1.2) w
  have c5 := fun w => rPn_any g.lev (Cm.ok_lt hk.1.1.2) w
  have c6 := fun w => rPn_any g.pre (Cm.ok_lt hk.1.2) w
  have z0 := Cm.pn_size _ (Cm.ok_lt hk.1.1.1.1.1.1)
  have z1 := Cm.pn_size _ (Cm.ok_lt hk.1.1.1.1.1.2)
  have z2 := Cm.pn_size _ (Cm.ok_lt hk.1.1.1.1.2)
  have z3 := Cm.pv_size hk.2
  have z4 := Cm.pn_size _ (Cm.ok_lt hk.1.1.1.2)
  have z5 := Cm.pn_size _ (Cm.ok_lt hk.1.1.2)
  have z6 := Cm.pn_size _ (Cm.ok_lt hk.1.2)
  unfold Cm.pG
  clear hk hg
  obtain ⟨p0, e0⟩ : ∃ p, Cm.pn g.id = p := ⟨_, rfl⟩
  obtain ⟨p1, e1⟩ : ∃ p, Cm.pn g.ten = p := ⟨_, rfl⟩
  obtain ⟨p2, e2⟩ : ∃ p, Cm.pn g.pods = p := ⟨_, rfl⟩
  obtain ⟨p3, e3⟩ : ∃ p, Cm.pv g.need = p := ⟨_, rfl⟩
  obtain ⟨p4, e4⟩ : ∃ p, Cm.pn g.run = p := ⟨_, rfl⟩
  obtain ⟨p5, e5⟩ : ∃ p, Cm.pn g.lev = p := ⟨_, rfl⟩
  obtain ⟨p6, e6⟩ : ∃ p, Cm.pn g.pre = p := ⟨_, rfl⟩
  rw [e0] at c0 z0 ⊢
  rw [e1] at c1 z1 ⊢
  rw [e2] at c2 z2 ⊢
  rw [e3] at c3 z3 ⊢
  rw [e4] at c4 z4 ⊢
  rw [e5] at c5 z5 ⊢
  rw [e6] at c6 z6 ⊢
  clear e0 e1 e2 e3 e4 e5 e6
  have hE : Hid (p0 ++ (p1 ++ (p2 ++ (p3 ++ (p4 ++ (p5 ++ p6))))) = p0 ++ p1 ++ p2 ++ p3 ++ p4 ++ p5 ++ p6) := Lib.hid (by simp only [ba_cat])
  obtain ⟨a, b, c, ⟨x, y, z⟩, d, e, f⟩ := g
  simp only [Gg.c] at *
  have C0 := Lib.hid c0; have C1 := Lib.hid c1; have C2 := Lib.hid c2; have C3 := Lib.hid c3; have C4 := Lib.hid c4; have C5 := Lib.hid c5; have C6 := Lib.hid c6
  clear c0 c1 c2 c3 c4 c5 c6
  go_enter Try.func45, Try.ntmps45
  go_wp2_with fail
  have gW : Below w.heap.size w (w.alloc (.cells #[.int .i64 a, .int .i64 b, .int .i64 c, .int .i64 x, .int .i64 y, .int .i64 z, .int .i64 d, .int .i64 e, .int .i64 f] 29)) := (Below.refl _ _).alloc (Nat.le_refl _) _
  have hh := Holds.new w #[.int .i64 a, .int .i64 b, .int .i64 c, .int .i64 x, .int .i64 y, .int .i64 z, .int .i64 d, .int .i64 e, .int .i64 f] 29
  have hlt : w.heap.size < (w.alloc (.cells #[.int .i64 a, .int .i64 b, .int .i64 c, .int .i64 x, .int .i64 y, .int .i64 z, .int .i64 d, .int .i64 e, .int .i64 f] 29)).heap.size := by simp
  obtain ⟨W, hW⟩ : ∃ W, w.alloc (.cells #[.int .i64 a, .int .i64 b, .int .i64 c, .int .i64 x, .int .i64 y, .int .i64 z, .int .i64 d, .int .i64 e, .int .i64 f] 29) = W := ⟨_, rfl⟩
  rw [hW] at gW hh hlt ⊢
  clear hW
  have GW := Lib.hid gW; clear gW
  have HQ := Lib.hid (fun w2 (g : Below W.heap.size W w2) => hh.kept hlt g); clear hh hlt
  refine region_quiet (fun w2 => Below W.heap.size W w2) (by kernel_rfl) (by kernel_rfl) (below_drewN (Below.refl _ _) 1) ?_
  repeat (first
    | (go_big_quiet_skip)
    | (with_reducible refine quiet_hold HQ.out 3 _ Try.underlying3 rfl _ _ _ rfl rfl rfl ?_ ?_; (focus kernel_rfl); simp only [Act.put, List.setIfInBounds_toArray, List.set_cons_zero, List.set_cons_succ])
    | (with_reducible refine quiet_hold3 HQ.out 27 _ Try.underlying27 rfl vec_len _ _ _ _ _ rfl rfl rfl rfl rfl ?_ ?_; (focus kernel_rfl); simp only [Act.put, List.setIfInBounds_toArray, List.set_cons_zero, List.set_cons_succ])
    | (go_big_quiet_step ((intro g2; first
      | (with_reducible rfl)
      | (with_reducible exact quiet_below g2 (C0.out _))
      | (with_reducible exact quiet_below g2 (C1.out _))
      | (with_reducible exact quiet_below g2 (C2.out _))
      | (with_reducible exact quiet_below g2 (C3.out _))))))
  refine wpQuiet_nil ?_
  intro w2 g2
  have hh2 := HQ.out w2 g2
  have GW2 := Lib.hid (below_trans GW.out g2)
  have HQ2 := Lib.hid (fun w3 (g : Below w2.heap.size w2 w3) => HQ.out w3 (below_trans g2 g))
  clear g2 hh2
  go_wp2_with fail
  refine region_quiet (fun w3 => Below w2.heap.size w2 w3) (by kernel_rfl) (by kernel_rfl) (below_drewN (Below.refl _ _) 1) ?_
  repeat (first
    | (go_big_quiet_skip)
    | (with_reducible refine quiet_hold HQ2.out 3 _ Try.underlying3 rfl _ _ _ rfl rfl rfl ?_ ?_; (focus kernel_rfl); simp only [Act.put, List.setIfInBounds_toArray, List.set_cons_zero, List.set_cons_succ])
    | (with_reducible refine quiet_hold3 HQ2.out 27 _ Try.underlying27 rfl vec_len _ _ _ _ _ rfl rfl rfl rfl rfl ?_ ?_; (focus kernel_rfl); simp only [Act.put, List.setIfInBounds_toArray, List.set_cons_zero, List.set_cons_succ])
    | (go_big_quiet_step ((intro g2; first
      | (with_reducible rfl)
      | (with_reducible exact quiet_below g2 (C4.out _))
      | (with_reducible exact quiet_below g2 (C5.out _))
      | (with_reducible exact quiet_below g2 (C6.out _))))))
  refine wpQuiet_nil ?_
  intro w3 g3
  have G3 := Lib.hid g3; clear g3
  go_wp2_with fail
  go_ret
  exact ⟨by rw [hE.out]; rfl, below_trans GW2.out G3.out⟩

end Go.Proofs.Ytpnfhcpapjomnaa
