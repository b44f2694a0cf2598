/- The landed reader: a configuration. -/
import Derived.Test.YtpnfhcpapjomnaaPcI
import Derived.Test.YtpnfhcpapjomnaaBarr
import Derived.Test.YtpnfhcpapjomnaaCmdJ
namespace Go.Proofs.Ytpnfhcpapjomnaa
open Go.RowKit
set_option linter.unusedVariables false

section
variable {P : Program} {w : World}
/-- An append by an equation of its own, as one step of a region that draws. -/
theorem step_append_by {ops : Array Oper} {o : Oper} {a : Act} {K : Act → World → Prop} {Q : Exit → Act → World → Prop} {E : Prop} (hgd : o.guard = none) (s x : Operand) (t tx : TypeId)
    (ho : o.op = .call { callee := .builtin .append, args := #[s, x], argTypes := #[t, tx] }) (vs vx v' : Value) (w' : World) (hs : a.eval s = vs) (hx : a.eval x = vx) (hr : (Builtin.append_ #[t, tx] o.type #[vs, vx]).run P w = .ok v' w')
    (h : K (a.put o.dst v') w') : if Region.wanted o (yielded ops a.tmps) = true then Oper.wp P o a w K Q else E := by
  have hw : Region.wanted o (yielded ops a.tmps) = true := by simp [Region.wanted, hgd]
  rw [if_pos hw]
  unfold Oper.wp execOp
  simp only [ho, resolve, invoke, builtin, Sem.run_bind, Sem.run_pure, Result.andThen_ok, List.map_toArray, List.map_cons, List.map_nil, hs, hx, hr]
  exact h
end

theorem Row.drew {w : World} {g : Nat} {cs : Array Value} {t : TypeId} (h : Row w g cs t) : Row w.drew g cs t := h
theorem But.drew {b : Nat} {u w : World} (h : But b u w) : But b u w.drew := h.drewN 1

/-- What a list of nodes is read as, so far. -/
structure PNd (b : Nat) (w : World) (n : Int) (Q : List Nd × Cm.St) (j : Int) (l : List Nd) (q : Cm.St) (v : Value) (wr : World) : Prop where
  rest : Cm.rep Cm.node (n - j).toNat q l = Q
  good : q.bad = false
  at_ : RAt b q.s wr
  but : But b w wr
  res : Row wr w.heap.size #[.slice none 0 0, .slice none 0 0, .int .i64 0, .int .i64 0] 25
  own : Row wr (w.heap.size + 1) #[v, .slice none 0 0, .int .i64 0, .int .i64 0] 25
  row : wr.ownsRow (w.heap.size + 2) 78 11 v l.length (cellsOf Nd.c l)
  len : (l.length : Int) = j
/-- What a list of hosts is read as, so far. -/
structure PHs (b B : Nat) (w : World) (n : Int) (L : List Nd) (vn : Value) (Q : List Hs × Cm.St) (j : Int) (l : List Hs) (q : Cm.St) (v : Value) (wr : World) : Prop where
  rest : Cm.rep Cm.host (n - j).toNat q l = Q
  good : q.bad = false
  at_ : RAt b q.s wr
  but : But b w wr
  res : Row wr w.heap.size #[.slice none 0 0, .slice none 0 0, .int .i64 0, .int .i64 0] 25
  own : Row wr (w.heap.size + 1) #[vn, v, .int .i64 0, .int .i64 0] 25
  row : wr.ownsRow (w.heap.size + 2) 78 11 vn L.length (cellsOf Nd.c L)
  low : ∀ k, vn.ownBlock = some k → k < B
  base : w.heap.size + 2 ≤ B ∧ B ≤ wr.heap.size
  rowh : wr.ownsRow B 81 6 v l.length (cellsOf Hs.c l)
  len : (l.length : Int) = j

/-- A configuration is read, or the reading is given up. -/
def CfP (b : Nat) (w : World) (r : (List Nd × List Hs × Int × Int) × Cm.St) (e : Ending) (w' : World) : Prop :=
  (r.2.bad = false ∧ ∃ vn vh : Value, e = .returned (.agg #[vn, vh, .int .i64 r.1.2.2.1, .int .i64 r.1.2.2.2]) ∧ RAt b r.2.s w' ∧ But b w w' ∧ w'.ownsRow (w.heap.size + 2) 78 11 vn r.1.1.length (cellsOf Nd.c r.1.1) ∧ w'.ownsRow (w.heap.size + 2) 81 6 vh r.1.2.1.length (cellsOf Hs.c r.1.2.1)) ∨
  (r.2.bad = true ∧ e = .panicked [{ v := .iface 34 (.int .i64 10), recovered := false }] ∧ But b w w')
theorem CfP.no {b : Nat} {w w' : World} {r : (List Nd × List Hs × Int × Int) × Cm.St} (h : r.2.bad = true) (hb : But b w w') : CfP b w r (.panicked [{ v := .iface 34 (.int .i64 10), recovered := false }]) w' := .inr ⟨h, rfl, hb⟩

set_option maxHeartbeats 4000000 in
set_option maxRecDepth 8000 in
theorem configOf_at (b : Nat) (p : Cm.St) (w : World) (hb : p.bad = false) (h : RAt b p.s w) : Calls Try.prog 48 #[.pointer (some ⟨b, 0, none⟩)] w (CfP b w (Cm.confP p)) := by
  have c0 := fun w => count_at b p 12 w
  obtain ⟨⟨n, p1⟩, e0⟩ : ∃ r, Cm.cnt 12 p = r := ⟨_, rfl⟩
  rw [e0] at c0
  obtain ⟨⟨ns, p2⟩, e1⟩ : ∃ r, Cm.rep Cm.node n.toNat p1 [] = r := ⟨_, rfl⟩
  have c2 := fun w => count_at b p2 24 w
  obtain ⟨⟨m, p3⟩, e2⟩ : ∃ r, Cm.cnt 24 p2 = r := ⟨_, rfl⟩
  rw [e2] at c2
  obtain ⟨⟨hs, p4⟩, e3⟩ : ∃ r, Cm.rep Cm.host m.toNat p3 [] = r := ⟨_, rfl⟩
  have c4 := fun w => number_at b p4 w
  obtain ⟨⟨x, p5⟩, e4⟩ : ∃ r, Cm.num p4 = r := ⟨_, rfl⟩
  rw [e4] at c4
  have c5 := fun w => number_at b p5 w
  obtain ⟨⟨y, p6⟩, e5⟩ : ∃ r, Cm.num p5 = r := ⟨_, rfl⟩
  rw [e5] at c5
  rw [Cm.confP_parts e0 e1 e2 e3 e4 e5]
  have f5 : p5.bad = true → p6.bad = true := Cm.num_bad' e5
  have f4 : p4.bad = true → p6.bad = true := fun q => f5 (Cm.num_bad' e4 q)
  have f3 : p3.bad = true → p6.bad = true := fun q => f4 (by have := Cm.rep_bad Cm.host (f := m.toNat) (l := []) q; rwa [e3] at this)
  have f2 : p2.bad = true → p6.bad = true := fun q => f3 (Cm.cnt_bad' e2 q)
  have f1 : p1.bad = true → p6.bad = true := fun q => f2 (by have := Cm.rep_bad Cm.node (f := n.toNat) (l := []) q; rwa [e1] at this)
  have hn : p1.bad = false → 0 ≤ n ∧ n ≤ 12 := fun q => (Cm.cnt_only e0 q).2.2
  have hm : p3.bad = false → 0 ≤ m ∧ m ≤ 24 := fun q => (Cm.cnt_only e2 q).2.2
  simp only at c0 c2 c4 c5
  have C0 := Lib.hid c0; have C2 := Lib.hid c2; have C4 := Lib.hid c4; have C5 := Lib.hid c5
  have F1 := Lib.hid f1; have F2 := Lib.hid f2; have F3 := Lib.hid f3; have F4 := Lib.hid f4; have F5 := Lib.hid f5
  have HNN := Lib.hid hn; have HMM := Lib.hid hm; have E1 := Lib.hid e1; have E3 := Lib.hid e3; have HP := Lib.hid h; have HG := Lib.hid hb
  clear c0 c2 c4 c5 e0 e1 e2 e3 e4 e5 f1 f2 f3 f4 f5 hn hm h hb
  have hbl : b < w.heap.size := HP.out.lt
  have b0 : But b w ((w.alloc (.cells #[.slice none 0 0, .slice none 0 0, .int .i64 0, .int .i64 0] 25)).alloc (.cells #[.slice none 0 0, .slice none 0 0, .int .i64 0, .int .i64 0] 25)) := ((But.refl b w).alloc _).alloc _
  have r0 : Row ((w.alloc (.cells #[.slice none 0 0, .slice none 0 0, .int .i64 0, .int .i64 0] 25)).alloc (.cells #[.slice none 0 0, .slice none 0 0, .int .i64 0, .int .i64 0] 25)) w.heap.size #[.slice none 0 0, .slice none 0 0, .int .i64 0, .int .i64 0] 25 := (Row.new w #[.slice none 0 0, .slice none 0 0, .int .i64 0, .int .i64 0] _).keep (b := w.heap.size + 1) (But.of_below ((Below.refl _ _).alloc (Nat.le_refl _) _)) (by omega)
  have r1 : Row ((w.alloc (.cells #[.slice none 0 0, .slice none 0 0, .int .i64 0, .int .i64 0] 25)).alloc (.cells #[.slice none 0 0, .slice none 0 0, .int .i64 0, .int .i64 0] 25)) (w.heap.size + 1) #[.slice none 0 0, .slice none 0 0, .int .i64 0, .int .i64 0] 25 := by
    have := Row.new (w.alloc (.cells #[.slice none 0 0, .slice none 0 0, .int .i64 0, .int .i64 0] 25)) #[.slice none 0 0, .slice none 0 0, .int .i64 0, .int .i64 0] 25
    rwa [World.size_alloc] at this
  have pw : RAt b p.s ((w.alloc (.cells #[.slice none 0 0, .slice none 0 0, .int .i64 0, .int .i64 0] 25)).alloc (.cells #[.slice none 0 0, .slice none 0 0, .int .i64 0, .int .i64 0] 25)) := HP.out.under (two_below _ _ _)
  have BL := Lib.hid hbl; have B0 := Lib.hid b0; have R0 := Lib.hid r0; have R1 := Lib.hid r1; have PW := Lib.hid pw
  clear hbl b0 r0 r1 pw
  go_enter Try.func48, Try.ntmps48
  go_wp2_with fail
  refine (C0.out _ HG.out PW.out).mono ?_
  rintro er w1 (⟨hq, rfl, h1, b1⟩ | ⟨hq, rfl, b1⟩)
  case inr =>
    have G := Lib.hid (CfP.no (b := b) (w := w) (r := ((ns, hs, x, y), p6)) (F1.out hq) (B0.out.trans b1))
    clear b1 hq
    go_wp2_with fail
    exact ⟨rfl, G.out⟩
  have hn := HNN.out hq
  have so0 : PNd b w n (ns, p2) 0 [] p1 (.slice none 0 0) w1 := ⟨by rw [Int.sub_zero]; exact E1.out, hq, h1, B0.out.trans b1, R0.out.keep b1 (by have := BL.out; omega), R1.out.keep b1 (by have := BL.out; omega), World.ownsRow_nil _ _ _ _, rfl⟩
  have S0 := Lib.hid so0
  obtain ⟨hn0, hn12⟩ := hn
  clear so0 h1 b1 hq
  go_wp2_with fail
  go_loopw [6] (fun i wr => ∃ (j : Int) (l : List Nd) (q : Cm.St) (v : Value), i = .int .i64 j ∧ 0 ≤ j ∧ j ≤ n ∧ Hid (PNd b w n (ns, p2) j l q v wr)) (fun i _ => (n - intOf i).toNat)
  case atStart => exact ⟨0, [], p1, _, rfl, by omega, by omega, S0.out⟩
  case round =>
    obtain ⟨j, l, q, v, rfl, hj0, hjn, hd⟩ := hrel
    by_cases hlt : j < n
    · have c1 := fun w => number_at b q w
      obtain ⟨⟨a1, q1⟩, e1⟩ : ∃ r, Cm.num q = r := ⟨_, rfl⟩
      have r1 : 0 ≤ a1 ∧ a1 < 9223372036854775808 := by have := num_range q; rw [e1] at this; exact this
      rw [e1] at c1
      have c2 := fun w => number_at b q1 w
      obtain ⟨⟨a2, q2⟩, e2⟩ : ∃ r, Cm.num q1 = r := ⟨_, rfl⟩
      rw [e2] at c2
      have c3 := fun w => vec_at b q2 w
      obtain ⟨⟨⟨x0, x1, x2⟩, q3⟩, e3⟩ : ∃ r, Cm.vec q2 = r := ⟨_, rfl⟩
      rw [e3] at c3
      have c4 := fun w => vec_at b q3 w
      obtain ⟨⟨⟨y0, y1, y2⟩, q4⟩, e4⟩ : ∃ r, Cm.vec q3 = r := ⟨_, rfl⟩
      rw [e4] at c4
      have c5 := fun w => vec_at b q4 w
      obtain ⟨⟨⟨z0, z1, z2⟩, q5⟩, e5⟩ : ∃ r, Cm.vec q4 = r := ⟨_, rfl⟩
      rw [e5] at c5
      have en : Cm.node q = ((⟨a1 - 1, a2, ⟨x0, x1, x2⟩, ⟨y0, y1, y2⟩, ⟨z0, z1, z2⟩⟩ : Nd), q5) := by simp only [Cm.node, e1, e2, e3, e4, e5]
      simp only at c1 c2 c3 c4 c5
      have hrest := hd.out.rest
      rw [show (n - j).toNat = (n - (j + 1)).toNat + 1 by omega, Cm.rep, if_neg (by rw [hd.out.good]; simp), en] at hrest
      have g5 : q5.bad = true → p6.bad = true := fun e => F2.out (by have := Cm.rep_bad Cm.node (f := (n - (j + 1)).toNat) (l := l ++ [(⟨a1 - 1, a2, ⟨x0, x1, x2⟩, ⟨y0, y1, y2⟩, ⟨z0, z1, z2⟩⟩ : Nd)]) e; rwa [hrest] at this)
      have g4 : q4.bad = true → p6.bad = true := fun e => g5 (Cm.vec_bad' e5 e)
      have g3 : q3.bad = true → p6.bad = true := fun e => g4 (Cm.vec_bad' e4 e)
      have g2 : q2.bad = true → p6.bad = true := fun e => g3 (Cm.vec_bad' e3 e)
      have g1 : q1.bad = true → p6.bad = true := fun e => g2 (Cm.num_bad' e2 e)
      have hlen := hd.out.len
      have C1 := Lib.hid c1; have C2_ := Lib.hid c2; have C3 := Lib.hid c3; have C4_ := Lib.hid c4; have C5_ := Lib.hid c5
      have HR2 := Lib.hid hrest; have HLEN := Lib.hid hlen; have G1 := Lib.hid g1; have G2 := Lib.hid g2; have G3 := Lib.hid g3; have G4 := Lib.hid g4; have G5 := Lib.hid g5
      have r10 := r1.1; have r11 := r1.2
      have hsum : IntKind.i64.wrap (a1 + -1) = a1 - 1 := by rw [IntKind.wrap_i64]; omega
      obtain ⟨na0, nl0, nc0, rfl⟩ := own_form hd.out.row
      have hcell : wr.drew.cell? ⟨w.heap.size + 1, 0, none⟩ = some (.slice na0 nl0 nc0) := hd.out.own.at_ 0
      have W0 := Lib.hid (show RAt b q.s wr.drew from hd.out.at_); have B1_ := Lib.hid (show But b wr wr.drew from (But.refl _ _).drew)
      clear c1 c2 c3 c4 c5 e1 e2 e3 e4 e5 en hrest hlen r1 g1 g2 g3 g4 g5
      go_wp2_with fail
      refine wp_region_barr (fun w' => w'.cell? ⟨w.heap.size + 1, 0, none⟩ = some (.slice na0 nl0 nc0)) 15 (by kernel_rfl) ?_
      refine barr_take (v := ?v0) 0 rfl (by decide) (by kernel_rfl) (by kernel_rfl) (by kernel_rfl) (fun _ _ _ h => h) (.inl ⟨by rfl, ?hy0⟩) (.inr (by assumption)) ?rest0
      case hy0 => intro w hSw; (try go_simp); (try with_reducible rfl)
      try simp only [Act.put, List.setIfInBounds_toArray, List.set_cons_zero, List.set_cons_succ]
      refine barr_take (v := ?v2) 2 rfl (by decide) (by kernel_rfl) (by kernel_rfl) (by kernel_rfl) (fun _ _ _ h => h) (.inl ⟨by rfl, ?hy2⟩) (.inr (by assumption)) ?rest2
      case hy2 => intro w hSw; (try go_simp); (try with_reducible rfl)
      try simp only [Act.put, List.setIfInBounds_toArray, List.set_cons_zero, List.set_cons_succ]
      refine barr_take (v := ?v5) 5 rfl (by decide) (by kernel_rfl) (by kernel_rfl) (by kernel_rfl) (fun _ _ _ h => h) (.inl ⟨by rfl, ?hy5⟩) (.inr (by assumption)) ?rest5
      case hy5 => intro w hSw; (try go_simp); (try with_reducible rfl)
      try simp only [Act.put, List.setIfInBounds_toArray, List.set_cons_zero, List.set_cons_succ]
      refine barr_take (v := ?v7) 7 rfl (by decide) (by kernel_rfl) (by kernel_rfl) (by kernel_rfl) (fun _ _ _ h => h) (.inl ⟨by rfl, ?hy7⟩) (.inr (by assumption)) ?rest7
      case hy7 => intro w hSw; (try go_simp); (try with_reducible rfl)
      try simp only [Act.put, List.setIfInBounds_toArray, List.set_cons_zero, List.set_cons_succ]
      refine barr_take (v := ?v9) 9 rfl (by decide) (by kernel_rfl) (by kernel_rfl) (by kernel_rfl) (fun _ _ _ h => h) (.inl ⟨by rfl, ?hy9⟩) (.inr (by assumption)) ?rest9
      case hy9 => intro w hSw; (try go_simp); (try with_reducible rfl)
      try simp only [Act.put, List.setIfInBounds_toArray, List.set_cons_zero, List.set_cons_succ]
      refine barr_take (v := ?v11) 11 rfl (by decide) (by kernel_rfl) (by kernel_rfl) (by kernel_rfl) (fun _ _ _ h => h) (.inl ⟨by rfl, ?hy11⟩) (.inr (by assumption)) ?rest11
      case hy11 => intro w hSw; (try go_simp); (try with_reducible rfl)
      try simp only [Act.put, List.setIfInBounds_toArray, List.set_cons_zero, List.set_cons_succ]
      refine barr_load (v := ?v1) 1 rfl (by decide) (by kernel_rfl) (by kernel_rfl) (by kernel_rfl) (by kernel_rfl) (by kernel_rfl) (fun _ _ _ h => h) (.inl ⟨by rfl, ?hy1⟩) (by assumption) ?rest1
      case hy1 => intro w hSw; (try go_simp); (try with_reducible rfl)
      try simp only [Act.put, List.setIfInBounds_toArray, List.set_cons_zero, List.set_cons_succ]
      refine barr_step 3 rfl (by kernel_rfl) ?_
      intro K0 hK0
      go_simp
      refine (C1.out _ hd.out.good W0.out).mono ?_
      rintro e u0 (⟨hq, rfl, h1, b1⟩ | ⟨hq, rfl, b1⟩)
      case inr =>
        have G := Lib.hid (CfP.no (b := b) (w := w) (r := ((ns, hs, x, y), p6)) (G1.out hq) (hd.out.but.trans (B1_.out.trans b1)))
        clear b1 hq hK0
        go_simp; exact ⟨rfl, G.out⟩
      have A0 := Lib.hid h1; have BB0 := Lib.hid (B1_.out.trans b1); have QQ0 := Lib.hid hq
      have hc0 : u0.cell? ⟨w.heap.size + 1, 0, none⟩ = some (.slice na0 nl0 nc0) := (hd.out.own.keep BB0.out (by have := BL.out; omega)).at_ 0
      clear h1 b1 hq hcell
      refine hK0.out _ _ (.inr hc0) ?_
      clear hK0 K0
      try simp only [Act.put, List.setIfInBounds_toArray, List.set_cons_zero, List.set_cons_succ]
      refine barr_take (v := ?v4) 4 rfl (by decide) (by kernel_rfl) (by kernel_rfl) (by kernel_rfl) (fun _ _ _ h => h) (.inl ⟨by rfl, ?hy4⟩) (.inr (by assumption)) ?rest4
      case hy4 => intro w hSw; (try go_simp); (try with_reducible rfl)
      try simp only [Act.put, List.setIfInBounds_toArray, List.set_cons_zero, List.set_cons_succ]
      refine barr_step 6 rfl (by kernel_rfl) ?_
      intro K1 hK1
      go_simp
      refine (C2_.out _ QQ0.out A0.out).mono ?_
      rintro e u1 (⟨hq, rfl, h1, b1⟩ | ⟨hq, rfl, b1⟩)
      case inr =>
        have G := Lib.hid (CfP.no (b := b) (w := w) (r := ((ns, hs, x, y), p6)) (G2.out hq) (hd.out.but.trans (BB0.out.trans b1)))
        clear b1 hq hK1
        go_simp; exact ⟨rfl, G.out⟩
      have A1 := Lib.hid h1; have BB1 := Lib.hid (BB0.out.trans b1); have QQ1 := Lib.hid hq
      have hc1 : u1.cell? ⟨w.heap.size + 1, 0, none⟩ = some (.slice na0 nl0 nc0) := (hd.out.own.keep BB1.out (by have := BL.out; omega)).at_ 0
      clear h1 b1 hq hc0
      refine hK1.out _ _ (.inr hc1) ?_
      clear hK1 K1
      try simp only [Act.put, List.setIfInBounds_toArray, List.set_cons_zero, List.set_cons_succ]
      refine barr_step 8 rfl (by kernel_rfl) ?_
      intro K2 hK2
      go_simp
      refine (C3.out _ QQ1.out A1.out).mono ?_
      rintro e u2 (⟨hq, rfl, h1, b1⟩ | ⟨hq, rfl, b1⟩)
      case inr =>
        have G := Lib.hid (CfP.no (b := b) (w := w) (r := ((ns, hs, x, y), p6)) (G3.out hq) (hd.out.but.trans (BB1.out.trans b1)))
        clear b1 hq hK2
        go_simp; exact ⟨rfl, G.out⟩
      have A2 := Lib.hid h1; have BB2 := Lib.hid (BB1.out.trans b1); have QQ2 := Lib.hid hq
      have hc2 : u2.cell? ⟨w.heap.size + 1, 0, none⟩ = some (.slice na0 nl0 nc0) := (hd.out.own.keep BB2.out (by have := BL.out; omega)).at_ 0
      clear h1 b1 hq hc1
      refine hK2.out _ _ (.inr hc2) ?_
      clear hK2 K2
      try simp only [Act.put, List.setIfInBounds_toArray, List.set_cons_zero, List.set_cons_succ]
      refine barr_step 10 rfl (by kernel_rfl) ?_
      intro K3 hK3
      go_simp
      refine (C4_.out _ QQ2.out A2.out).mono ?_
      rintro e u3 (⟨hq, rfl, h1, b1⟩ | ⟨hq, rfl, b1⟩)
      case inr =>
        have G := Lib.hid (CfP.no (b := b) (w := w) (r := ((ns, hs, x, y), p6)) (G4.out hq) (hd.out.but.trans (BB2.out.trans b1)))
        clear b1 hq hK3
        go_simp; exact ⟨rfl, G.out⟩
      have A3 := Lib.hid h1; have BB3 := Lib.hid (BB2.out.trans b1); have QQ3 := Lib.hid hq
      have hc3 : u3.cell? ⟨w.heap.size + 1, 0, none⟩ = some (.slice na0 nl0 nc0) := (hd.out.own.keep BB3.out (by have := BL.out; omega)).at_ 0
      clear h1 b1 hq hc2
      refine hK3.out _ _ (.inr hc3) ?_
      clear hK3 K3
      try simp only [Act.put, List.setIfInBounds_toArray, List.set_cons_zero, List.set_cons_succ]
      refine barr_step 12 rfl (by kernel_rfl) ?_
      intro K4 hK4
      go_simp
      refine (C5_.out _ QQ3.out A3.out).mono ?_
      rintro e u4 (⟨hq, rfl, h1, b1⟩ | ⟨hq, rfl, b1⟩)
      case inr =>
        have G := Lib.hid (CfP.no (b := b) (w := w) (r := ((ns, hs, x, y), p6)) (G5.out hq) (hd.out.but.trans (BB3.out.trans b1)))
        clear b1 hq hK4
        go_simp; exact ⟨rfl, G.out⟩
      have A4 := Lib.hid h1; have BB4 := Lib.hid (BB3.out.trans b1); have QQ4 := Lib.hid hq
      have hc4 : u4.cell? ⟨w.heap.size + 1, 0, none⟩ = some (.slice na0 nl0 nc0) := (hd.out.own.keep BB4.out (by have := BL.out; omega)).at_ 0
      clear h1 b1 hq hc3
      refine hK4.out _ _ (.inr hc4) ?_
      clear hK4 K4
      try simp only [Act.put, List.setIfInBounds_toArray, List.set_cons_zero, List.set_cons_succ]
      refine barr_take (v := ?v13) 13 rfl (by decide) (by kernel_rfl) (by kernel_rfl) (by kernel_rfl) (fun _ _ _ h => h) (.inl ⟨by rfl, ?hy13⟩) (.inr (by assumption)) ?rest13
      case hy13 => intro w hSw; (try go_simp); (try with_reducible rfl)
      try simp only [Act.put, List.setIfInBounds_toArray, List.set_cons_zero, List.set_cons_succ]
      have o8 := hd.out.own.keep BB4.out (by have := BL.out; omega)
      have s8 := hd.out.res.keep BB4.out (by have := BL.out; omega)
      have w8 := own_keep hd.out.row BB4.out (own_low hd.out.row (by have := BL.out; omega))
      have b8 := hd.out.but.trans BB4.out
      have k9 : But u4.heap.size u4 (u4.alloc (.cells #[.int .i64 (a1 - 1), .int .i64 a2, .int .i64 x0, .int .i64 x1, .int .i64 x2, .int .i64 y0, .int .i64 y1, .int .i64 y2, .int .i64 z0, .int .i64 z1, .int .i64 z2] 78)) := (But.refl _ _).alloc _
      have a9 : RAt b q5.s (u4.alloc (.cells #[.int .i64 (a1 - 1), .int .i64 a2, .int .i64 x0, .int .i64 x1, .int .i64 x2, .int .i64 y0, .int .i64 y1, .int .i64 y2, .int .i64 z0, .int .i64 z1, .int .i64 z2] 78)) := Row.aside A4.out k9 (by have := Row.lt A4.out; omega)
      have s9 := Row.aside s8 k9 (by have := Row.lt s8; omega)
      have o9 := Row.aside o8 k9 (by have := Row.lt o8; omega)
      have b9 := b8.alloc (.cells #[.int .i64 (a1 - 1), .int .i64 a2, .int .i64 x0, .int .i64 x1, .int .i64 x2, .int .i64 y0, .int .i64 y1, .int .i64 y2, .int .i64 z0, .int .i64 z1, .int .i64 z2] 78)
      have hbase : w.heap.size + 2 ≤ (u4.alloc (.cells #[.int .i64 (a1 - 1), .int .i64 a2, .int .i64 x0, .int .i64 x1, .int .i64 x2, .int .i64 y0, .int .i64 y1, .int .i64 y2, .int .i64 z0, .int .i64 z1, .int .i64 z2] 78)).heap.size := by have := Row.lt o8; rw [World.size_alloc]; omega
      obtain ⟨v', w9, hrun, own9, gr9⟩ := node_append (u4.alloc (.cells #[.int .i64 (a1 - 1), .int .i64 a2, .int .i64 x0, .int .i64 x1, .int .i64 x2, .int .i64 y0, .int .i64 y1, .int .i64 y2, .int .i64 z0, .int .i64 z1, .int .i64 z2] 78)) (w.heap.size + 2) (.slice na0 nl0 nc0) l (⟨a1 - 1, a2, ⟨x0, x1, x2⟩, ⟨y0, y1, y2⟩, ⟨z0, z1, z2⟩⟩ : Nd) (by have := HLEN.out; omega) u4.heap.size (World.ownsRow.alloc w8 _) (Row.new u4 #[.int .i64 (a1 - 1), .int .i64 a2, .int .i64 x0, .int .i64 x1, .int .i64 x2, .int .i64 y0, .int .i64 y1, .int .i64 y2, .int .i64 z0, .int .i64 z1, .int .i64 z2] 78) hbase
      obtain ⟨va, vl, vc, rfl⟩ := own_form own9
      have nb : (Value.slice na0 nl0 nc0).ownBlock ≠ some b := own_low w8 (by have := BL.out; omega)
      have a10 := Row.grown a9 gr9 nb
      have s10 := Row.grown s9 gr9 (own_low w8 (by omega))
      have o10 := Row.grown o9 gr9 (own_low w8 (by omega))
      have b10 := b9.grown gr9 (fun k e => by have := (w8.lt k e).1; omega)
      have c9 : (u4.alloc (.cells #[.int .i64 (a1 - 1), .int .i64 a2, .int .i64 x0, .int .i64 x1, .int .i64 x2, .int .i64 y0, .int .i64 y1, .int .i64 y2, .int .i64 z0, .int .i64 z1, .int .i64 z2] 78)).cell? ⟨w.heap.size + 1, 0, none⟩ = some (.slice na0 nl0 nc0) := o9.at_ 0
      have c10 : w9.cell? ⟨w.heap.size + 1, 0, none⟩ = some (.slice na0 nl0 nc0) := o10.at_ 0
      have f10 := o10.soft 0
      have k11 : But (w.heap.size + 1) w9 (w9.setCell ⟨w.heap.size + 1, 0, none⟩ (.slice va vl vc)) := (But.refl _ _).setCell (p := ⟨w.heap.size + 1, 0, none⟩) (.inr rfl) _
      have FIN := Lib.hid (show PNd b w n (ns, p2) (j + 1) (l ++ [(⟨a1 - 1, a2, ⟨x0, x1, x2⟩, ⟨y0, y1, y2⟩, ⟨z0, z1, z2⟩⟩ : Nd)]) q5 (.slice va vl vc) (w9.setCell ⟨w.heap.size + 1, 0, none⟩ (.slice va vl vc)) from
        ⟨HR2.out, QQ4.out, Row.aside a10 k11 (by have := BL.out; omega), b10.setCell (p := ⟨w.heap.size + 1, 0, none⟩) (.inl (by show w.heap.size ≤ w.heap.size + 1; omega)) _, s10.aside k11 (by omega), o10.set 0 (.slice va vl vc), own_keep own9 k11 (own_low own9 (by omega)), by have := HLEN.out; rw [List.length_append, List.length_singleton]; omega⟩)
      have HRUN := Lib.hid hrun; have C9 := Lib.hid c9
      clear o8 s8 w8 b8 k9 a9 s9 o9 b9 hbase hrun own9 gr9 nb a10 s10 o10 b10 k11 c9
      refine barr_step 14 rfl (by kernel_rfl) ?_
      intro K hK
      go_simp
      refine hK.out _ _ (.inr C9.out) ?_
      clear hK K
      refine barr_step 15 rfl (by kernel_rfl) ?_
      intro K hK
      refine step_append_by rfl _ _ _ _ rfl _ _ _ _ rfl rfl HRUN.out ?_
      refine hK.out _ _ (.inl (by kernel_rfl)) ?_
      clear hK K
      try simp only [Act.put, List.setIfInBounds_toArray, List.set_cons_zero, List.set_cons_succ]
      refine barr_step 16 rfl (by kernel_rfl) ?_
      intro K hK
      go_simp
      refine hK.out _ _ (.inl (by kernel_rfl)) ?_
      clear hK K
      refine barr_step 17 rfl (by kernel_rfl) ?_
      intro K hK
      go_simp
      refine hK.out _ _ (.inl (by kernel_rfl)) ?_
      clear hK K
      refine barr_done (by kernel_rfl) ?_ _
      go_wp2_with fail
      go_roundw
      case rel => exact ⟨j + 1, l ++ [(⟨a1 - 1, a2, ⟨x0, x1, x2⟩, ⟨y0, y1, y2⟩, ⟨z0, z1, z2⟩⟩ : Nd)], q5, .slice va vl vc, rfl, by omega, by omega, FIN.out⟩
      case measure => simp [intOf]; omega
    · have e := hd.out.rest
      rw [show (n - j).toNat = 0 by omega, Cm.rep] at e
      obtain ⟨y1, y2⟩ := Prod.mk.inj e.symm
      subst y1; subst y2
      obtain ⟨va0, vl0, vc0, rfl⟩ := own_form hd.out.row
      have HA := Lib.hid hd.out
      clear hd e
      go_wp2_with fail
      refine (C2.out _ HA.out.good HA.out.at_).mono ?_
      rintro er w2 (⟨hq, rfl, h1, b1⟩ | ⟨hq, rfl, b1⟩)
      case inr =>
        have G := Lib.hid (CfP.no (b := b) (w := w) (r := ((ns, hs, x, y), p6)) (F3.out hq) (HA.out.but.trans b1))
        clear b1 hq
        go_wp2_with fail
        exact ⟨rfl, G.out⟩
      have hm := HMM.out hq
      have so1 : PHs b wr.heap.size w m ns (.slice va0 vl0 vc0) (hs, p4) 0 [] p3 (.slice none 0 0) w2 :=
        ⟨by rw [Int.sub_zero]; exact E3.out, hq, h1, HA.out.but.trans b1, HA.out.res.keep b1 (by have := BL.out; omega), HA.out.own.keep b1 (by have := BL.out; omega), own_keep HA.out.row b1 (own_low HA.out.row (by have := BL.out; omega)), fun k e => (HA.out.row.lt k e).2, ⟨by have := HA.out.own.lt; omega, b1.size⟩, World.ownsRow_nil _ _ _ _, rfl⟩
      have S1 := Lib.hid so1
      obtain ⟨hm0, hm24⟩ := hm
      obtain ⟨Bz, hBz⟩ : ∃ z, wr.heap.size = z := ⟨_, rfl⟩
      rw [hBz] at S1
      clear so1 h1 b1 hq hBz hlt
      go_wp2_with fail
      go_loopw [28] (fun i wr => ∃ (j : Int) (l : List Hs) (q : Cm.St) (v : Value), i = .int .i64 j ∧ 0 ≤ j ∧ j ≤ m ∧ Hid (PHs b Bz w m ns (.slice va0 vl0 vc0) (hs, p4) j l q v wr)) (fun i _ => (m - intOf i).toNat)
      case atStart => exact ⟨0, [], p3, _, rfl, by omega, by omega, S1.out⟩
      case round =>
        obtain ⟨j, l, q, v, rfl, hj0, hjm, hd⟩ := hrel
        by_cases hlt : j < m
        · have c1 := fun w => number_at b q w
          obtain ⟨⟨a1, q1⟩, e1⟩ : ∃ r, Cm.num q = r := ⟨_, rfl⟩
          rw [e1] at c1
          have c2 := fun w => number_at b q1 w
          obtain ⟨⟨a2, q2⟩, e2⟩ : ∃ r, Cm.num q1 = r := ⟨_, rfl⟩
          rw [e2] at c2
          have c3 := fun w => number_at b q2 w
          obtain ⟨⟨a3, q3⟩, e3⟩ : ∃ r, Cm.num q2 = r := ⟨_, rfl⟩
          rw [e3] at c3
          have c4 := fun w => vec_at b q3 w
          obtain ⟨⟨⟨x0, x1, x2⟩, q4⟩, e4⟩ : ∃ r, Cm.vec q3 = r := ⟨_, rfl⟩
          rw [e4] at c4
          have en : Cm.host q = ((⟨a1, a2, a3, ⟨x0, x1, x2⟩⟩ : Hs), q4) := by simp only [Cm.host, e1, e2, e3, e4]
          simp only at c1 c2 c3 c4
          have hrest := hd.out.rest
          rw [show (m - j).toNat = (m - (j + 1)).toNat + 1 by omega, Cm.rep, if_neg (by rw [hd.out.good]; simp), en] at hrest
          have g4 : q4.bad = true → p6.bad = true := fun e => F4.out (by have := Cm.rep_bad Cm.host (f := (m - (j + 1)).toNat) (l := l ++ [(⟨a1, a2, a3, ⟨x0, x1, x2⟩⟩ : Hs)]) e; rwa [hrest] at this)
          have g3 : q3.bad = true → p6.bad = true := fun e => g4 (Cm.vec_bad' e4 e)
          have g2 : q2.bad = true → p6.bad = true := fun e => g3 (Cm.num_bad' e3 e)
          have g1 : q1.bad = true → p6.bad = true := fun e => g2 (Cm.num_bad' e2 e)
          have hlen := hd.out.len
          have C1 := Lib.hid c1; have C2_ := Lib.hid c2; have C3 := Lib.hid c3; have C4_ := Lib.hid c4
          have HR2 := Lib.hid hrest; have HLEN := Lib.hid hlen; have G1 := Lib.hid g1; have G2 := Lib.hid g2; have G3 := Lib.hid g3; have G4 := Lib.hid g4
          obtain ⟨na0, nl0, nc0, rfl⟩ := own_form hd.out.rowh
          have hcell : wr.drew.cell? ⟨w.heap.size + 1, 1, none⟩ = some (.slice na0 nl0 nc0) := hd.out.own.at_ 1
          have W0 := Lib.hid (show RAt b q.s wr.drew from hd.out.at_); have B1_ := Lib.hid (show But b wr wr.drew from (But.refl _ _).drew)
          clear c1 c2 c3 c4 e1 e2 e3 e4 en hrest hlen g1 g2 g3 g4
          go_wp2_with fail
          refine wp_region_barr (fun w' => w'.cell? ⟨w.heap.size + 1, 1, none⟩ = some (.slice na0 nl0 nc0)) 12 (by kernel_rfl) ?_
          refine barr_take (v := ?v0h) 0 rfl (by decide) (by kernel_rfl) (by kernel_rfl) (by kernel_rfl) (fun _ _ _ h => h) (.inl ⟨by rfl, ?hy0h⟩) (.inr (by assumption)) ?rest0h
          case hy0h => intro w hSw; (try go_simp); (try with_reducible rfl)
          try simp only [Act.put, List.setIfInBounds_toArray, List.set_cons_zero, List.set_cons_succ]
          refine barr_take (v := ?v2h) 2 rfl (by decide) (by kernel_rfl) (by kernel_rfl) (by kernel_rfl) (fun _ _ _ h => h) (.inl ⟨by rfl, ?hy2h⟩) (.inr (by assumption)) ?rest2h
          case hy2h => intro w hSw; (try go_simp); (try with_reducible rfl)
          try simp only [Act.put, List.setIfInBounds_toArray, List.set_cons_zero, List.set_cons_succ]
          refine barr_take (v := ?v4h) 4 rfl (by decide) (by kernel_rfl) (by kernel_rfl) (by kernel_rfl) (fun _ _ _ h => h) (.inl ⟨by rfl, ?hy4h⟩) (.inr (by assumption)) ?rest4h
          case hy4h => intro w hSw; (try go_simp); (try with_reducible rfl)
          try simp only [Act.put, List.setIfInBounds_toArray, List.set_cons_zero, List.set_cons_succ]
          refine barr_take (v := ?v6h) 6 rfl (by decide) (by kernel_rfl) (by kernel_rfl) (by kernel_rfl) (fun _ _ _ h => h) (.inl ⟨by rfl, ?hy6h⟩) (.inr (by assumption)) ?rest6h
          case hy6h => intro w hSw; (try go_simp); (try with_reducible rfl)
          try simp only [Act.put, List.setIfInBounds_toArray, List.set_cons_zero, List.set_cons_succ]
          refine barr_take (v := ?v8h) 8 rfl (by decide) (by kernel_rfl) (by kernel_rfl) (by kernel_rfl) (fun _ _ _ h => h) (.inl ⟨by rfl, ?hy8h⟩) (.inr (by assumption)) ?rest8h
          case hy8h => intro w hSw; (try go_simp); (try with_reducible rfl)
          try simp only [Act.put, List.setIfInBounds_toArray, List.set_cons_zero, List.set_cons_succ]
          refine barr_load (v := ?v1h) 1 rfl (by decide) (by kernel_rfl) (by kernel_rfl) (by kernel_rfl) (by kernel_rfl) (by kernel_rfl) (fun _ _ _ h => h) (.inl ⟨by rfl, ?hy1h⟩) (by assumption) ?rest1h
          case hy1h => intro w hSw; (try go_simp); (try with_reducible rfl)
          try simp only [Act.put, List.setIfInBounds_toArray, List.set_cons_zero, List.set_cons_succ]
          refine barr_step 3 rfl (by kernel_rfl) ?_
          intro K0 hK0
          go_simp
          refine (C1.out _ hd.out.good W0.out).mono ?_
          rintro e u0 (⟨hq, rfl, h1, b1⟩ | ⟨hq, rfl, b1⟩)
          case inr =>
            have G := Lib.hid (CfP.no (b := b) (w := w) (r := ((ns, hs, x, y), p6)) (G1.out hq) (hd.out.but.trans (B1_.out.trans b1)))
            clear b1 hq hK0
            go_simp; exact ⟨rfl, G.out⟩
          have A0 := Lib.hid h1; have BB0 := Lib.hid (B1_.out.trans b1); have QQ0 := Lib.hid hq
          have hc0 : u0.cell? ⟨w.heap.size + 1, 1, none⟩ = some (.slice na0 nl0 nc0) := (hd.out.own.keep BB0.out (by have := BL.out; omega)).at_ 1
          clear h1 b1 hq hcell
          refine hK0.out _ _ (.inr hc0) ?_
          clear hK0 K0
          try simp only [Act.put, List.setIfInBounds_toArray, List.set_cons_zero, List.set_cons_succ]
          refine barr_step 5 rfl (by kernel_rfl) ?_
          intro K1 hK1
          go_simp
          refine (C2_.out _ QQ0.out A0.out).mono ?_
          rintro e u1 (⟨hq, rfl, h1, b1⟩ | ⟨hq, rfl, b1⟩)
          case inr =>
            have G := Lib.hid (CfP.no (b := b) (w := w) (r := ((ns, hs, x, y), p6)) (G2.out hq) (hd.out.but.trans (BB0.out.trans b1)))
            clear b1 hq hK1
            go_simp; exact ⟨rfl, G.out⟩
          have A1 := Lib.hid h1; have BB1 := Lib.hid (BB0.out.trans b1); have QQ1 := Lib.hid hq
          have hc1 : u1.cell? ⟨w.heap.size + 1, 1, none⟩ = some (.slice na0 nl0 nc0) := (hd.out.own.keep BB1.out (by have := BL.out; omega)).at_ 1
          clear h1 b1 hq hc0
          refine hK1.out _ _ (.inr hc1) ?_
          clear hK1 K1
          try simp only [Act.put, List.setIfInBounds_toArray, List.set_cons_zero, List.set_cons_succ]
          refine barr_step 7 rfl (by kernel_rfl) ?_
          intro K2 hK2
          go_simp
          refine (C3.out _ QQ1.out A1.out).mono ?_
          rintro e u2 (⟨hq, rfl, h1, b1⟩ | ⟨hq, rfl, b1⟩)
          case inr =>
            have G := Lib.hid (CfP.no (b := b) (w := w) (r := ((ns, hs, x, y), p6)) (G3.out hq) (hd.out.but.trans (BB1.out.trans b1)))
            clear b1 hq hK2
            go_simp; exact ⟨rfl, G.out⟩
          have A2 := Lib.hid h1; have BB2 := Lib.hid (BB1.out.trans b1); have QQ2 := Lib.hid hq
          have hc2 : u2.cell? ⟨w.heap.size + 1, 1, none⟩ = some (.slice na0 nl0 nc0) := (hd.out.own.keep BB2.out (by have := BL.out; omega)).at_ 1
          clear h1 b1 hq hc1
          refine hK2.out _ _ (.inr hc2) ?_
          clear hK2 K2
          try simp only [Act.put, List.setIfInBounds_toArray, List.set_cons_zero, List.set_cons_succ]
          refine barr_step 9 rfl (by kernel_rfl) ?_
          intro K3 hK3
          go_simp
          refine (C4_.out _ QQ2.out A2.out).mono ?_
          rintro e u3 (⟨hq, rfl, h1, b1⟩ | ⟨hq, rfl, b1⟩)
          case inr =>
            have G := Lib.hid (CfP.no (b := b) (w := w) (r := ((ns, hs, x, y), p6)) (G4.out hq) (hd.out.but.trans (BB2.out.trans b1)))
            clear b1 hq hK3
            go_simp; exact ⟨rfl, G.out⟩
          have A3 := Lib.hid h1; have BB3 := Lib.hid (BB2.out.trans b1); have QQ3 := Lib.hid hq
          have hc3 : u3.cell? ⟨w.heap.size + 1, 1, none⟩ = some (.slice na0 nl0 nc0) := (hd.out.own.keep BB3.out (by have := BL.out; omega)).at_ 1
          clear h1 b1 hq hc2
          refine hK3.out _ _ (.inr hc3) ?_
          clear hK3 K3
          try simp only [Act.put, List.setIfInBounds_toArray, List.set_cons_zero, List.set_cons_succ]
          refine barr_take (v := ?v10h) 10 rfl (by decide) (by kernel_rfl) (by kernel_rfl) (by kernel_rfl) (fun _ _ _ h => h) (.inl ⟨by rfl, ?hy10h⟩) (.inr (by assumption)) ?rest10h
          case hy10h => intro w hSw; (try go_simp); (try with_reducible rfl)
          try simp only [Act.put, List.setIfInBounds_toArray, List.set_cons_zero, List.set_cons_succ]
          have o8 := hd.out.own.keep BB3.out (by have := BL.out; omega)
          have s8 := hd.out.res.keep BB3.out (by have := BL.out; omega)
          have w8 := own_keep hd.out.rowh BB3.out (own_low hd.out.rowh (by have := BL.out; have := hd.out.base; omega))
          have n8 := own_keep hd.out.row BB3.out (own_low hd.out.row (by have := BL.out; omega))
          have zz := BB3.out.size
          have b8 := hd.out.but.trans BB3.out
          have k9 : But u3.heap.size u3 (u3.alloc (.cells #[.int .i64 a1, .int .i64 a2, .int .i64 a3, .int .i64 x0, .int .i64 x1, .int .i64 x2] 81)) := (But.refl _ _).alloc _
          have a9 : RAt b q4.s (u3.alloc (.cells #[.int .i64 a1, .int .i64 a2, .int .i64 a3, .int .i64 x0, .int .i64 x1, .int .i64 x2] 81)) := Row.aside A3.out k9 (by have := Row.lt A3.out; omega)
          have s9 := Row.aside s8 k9 (by have := Row.lt s8; omega)
          have o9 := Row.aside o8 k9 (by have := Row.lt o8; omega)
          have b9 := b8.alloc (.cells #[.int .i64 a1, .int .i64 a2, .int .i64 a3, .int .i64 x0, .int .i64 x1, .int .i64 x2] 81)
          have hbase : Bz ≤ (u3.alloc (.cells #[.int .i64 a1, .int .i64 a2, .int .i64 a3, .int .i64 x0, .int .i64 x1, .int .i64 x2] 81)).heap.size := by have := hd.out.base; rw [World.size_alloc]; omega
          obtain ⟨v', w9, hrun, own9, gr9⟩ := host_append (u3.alloc (.cells #[.int .i64 a1, .int .i64 a2, .int .i64 a3, .int .i64 x0, .int .i64 x1, .int .i64 x2] 81)) Bz (.slice na0 nl0 nc0) l (⟨a1, a2, a3, ⟨x0, x1, x2⟩⟩ : Hs) (by have := HLEN.out; omega) u3.heap.size (World.ownsRow.alloc w8 _) (Row.new u3 #[.int .i64 a1, .int .i64 a2, .int .i64 a3, .int .i64 x0, .int .i64 x1, .int .i64 x2] 81) hbase
          obtain ⟨va, vl, vc, rfl⟩ := own_form own9
          have nb : (Value.slice na0 nl0 nc0).ownBlock ≠ some b := own_low w8 (by have := BL.out; have := hd.out.base; omega)
          have a10 := Row.grown a9 gr9 nb
          have s10 := Row.grown s9 gr9 (own_low w8 (by have := hd.out.base; omega))
          have o10 := Row.grown o9 gr9 (own_low w8 (by have := hd.out.base; omega))
          have b10 := b9.grown gr9 (fun k e => by have := (w8.lt k e).1; have := hd.out.base; omega)
          have n9 := World.ownsRow.alloc n8 (.cells #[.int .i64 a1, .int .i64 a2, .int .i64 a3, .int .i64 x0, .int .i64 x1, .int .i64 x2] 81)
          have n10 : w9.ownsRow _ _ _ _ _ _ := n9.kept gr9 (by
            rcases hk : (Value.slice va0 vl0 vc0).ownBlock with _ | k
            · exact .inl rfl
            · refine .inr fun e => ?_
              have h1 := hd.out.low k hk
              have h2 := (w8.lt k e.symm).1
              omega)
          have zz9 := gr9.size
          rw [World.size_alloc] at zz9
          have c9 : (u3.alloc (.cells #[.int .i64 a1, .int .i64 a2, .int .i64 a3, .int .i64 x0, .int .i64 x1, .int .i64 x2] 81)).cell? ⟨w.heap.size + 1, 1, none⟩ = some (.slice na0 nl0 nc0) := o9.at_ 1
          have c10 : w9.cell? ⟨w.heap.size + 1, 1, none⟩ = some (.slice na0 nl0 nc0) := o10.at_ 1
          have f10 := o10.soft 1
          have k11 : But (w.heap.size + 1) w9 (w9.setCell ⟨w.heap.size + 1, 1, none⟩ (.slice va vl vc)) := (But.refl _ _).setCell (p := ⟨w.heap.size + 1, 1, none⟩) (.inr rfl) _
          have FIN := Lib.hid (show PHs b Bz w m ns (.slice va0 vl0 vc0) (hs, p4) (j + 1) (l ++ [(⟨a1, a2, a3, ⟨x0, x1, x2⟩⟩ : Hs)]) q4 (.slice va vl vc) (w9.setCell ⟨w.heap.size + 1, 1, none⟩ (.slice va vl vc)) from
            ⟨HR2.out, QQ3.out, Row.aside a10 k11 (by have := BL.out; omega), b10.setCell (p := ⟨w.heap.size + 1, 1, none⟩) (.inl (by show w.heap.size ≤ w.heap.size + 1; omega)) _, s10.aside k11 (by omega), o10.set 1 (.slice va vl vc), own_keep n10 k11 (own_low n10 (by omega)), hd.out.low, ⟨hd.out.base.1, by have := hd.out.base.2; rw [World.size_setCell]; omega⟩, own_keep own9 k11 (own_low own9 (by have := hd.out.base; omega)), by have := HLEN.out; rw [List.length_append, List.length_singleton]; omega⟩)
          have HRUN := Lib.hid hrun; have C9 := Lib.hid c9
          clear o8 s8 w8 n8 n9 n10 zz zz9 b8 k9 a9 s9 o9 b9 hbase hrun own9 gr9 nb a10 s10 o10 b10 k11 c9
          refine barr_step 11 rfl (by kernel_rfl) ?_
          intro K hK
          go_simp
          refine hK.out _ _ (.inr C9.out) ?_
          clear hK K
          refine barr_step 12 rfl (by kernel_rfl) ?_
          intro K hK
          refine step_append_by rfl _ _ _ _ rfl _ _ _ _ rfl rfl HRUN.out ?_
          refine hK.out _ _ (.inl (by kernel_rfl)) ?_
          clear hK K
          try simp only [Act.put, List.setIfInBounds_toArray, List.set_cons_zero, List.set_cons_succ]
          refine barr_step 13 rfl (by kernel_rfl) ?_
          intro K hK
          go_simp
          refine hK.out _ _ (.inl (by kernel_rfl)) ?_
          clear hK K
          refine barr_step 14 rfl (by kernel_rfl) ?_
          intro K hK
          go_simp
          refine hK.out _ _ (.inl (by kernel_rfl)) ?_
          clear hK K
          refine barr_done (by kernel_rfl) ?_ _
          go_wp2_with fail
          go_roundw
          case rel => exact ⟨j + 1, l ++ [(⟨a1, a2, a3, ⟨x0, x1, x2⟩⟩ : Hs)], q4, .slice va vl vc, rfl, by omega, by omega, FIN.out⟩
          case measure => simp [intOf]; omega
        · have e := hd.out.rest
          rw [show (m - j).toNat = 0 by omega, Cm.rep] at e
          obtain ⟨y1, y2⟩ := Prod.mk.inj e.symm
          subst y1; subst y2
          obtain ⟨ha, hl', hc, rfl⟩ := own_form hd.out.rowh
          have HB := Lib.hid hd.out
          clear hd e
          go_wp2_with fail
          refine (C4.out _ HB.out.good HB.out.at_).mono ?_
          rintro er w3 (⟨hq, rfl, h1, b1⟩ | ⟨hq, rfl, b1⟩)
          case inr =>
            have G := Lib.hid (CfP.no (b := b) (w := w) (r := ((ns, hs, x, y), p6)) (F5.out hq) (HB.out.but.trans b1))
            clear b1 hq
            go_wp2_with fail
            exact ⟨rfl, G.out⟩
          have A3 := Lib.hid h1; have B3 := Lib.hid b1; have Q3 := Lib.hid hq; clear h1 b1 hq
          go_wp2_with fail
          refine (C5.out _ Q3.out A3.out).mono ?_
          rintro er w4 (⟨hq, rfl, h4, b1⟩ | ⟨hq, rfl, b1⟩)
          case inr =>
            have G := Lib.hid (CfP.no (b := b) (w := w) (r := ((ns, hs, x, y), p6)) (hq) (HB.out.but.trans (B3.out.trans b1)))
            clear b1 hq
            go_wp2_with fail
            exact ⟨rfl, G.out⟩
          have b4' := B3.out.trans b1
          have o4 := HB.out.own.keep b4' (by have := BL.out; omega)
          have r4 := HB.out.res.keep b4' (by have := BL.out; omega)
          have n4 := own_keep HB.out.row b4' (own_low HB.out.row (by have := BL.out; omega))
          have g4 := own_keep HB.out.rowh b4' (own_low HB.out.rowh (by have := BL.out; have := HB.out.base; omega))
          have c2 : w4.cell? ⟨w.heap.size + 1, 2, none⟩ = some (.int .i64 0) := o4.at_ 2
          have c3 : w4.cell? ⟨w.heap.size + 1, 3, none⟩ = some (.int .i64 0) := o4.at_ 3
          have f2 := o4.soft 2
          have f3 := o4.soft 3
          have k5 := ((But.refl (w.heap.size + 1) w4).setCell (p := ⟨w.heap.size + 1, 2, none⟩) (.inr rfl) (.int .i64 x)).setCell (p := ⟨w.heap.size + 1, 3, none⟩) (.inr rfl) (.int .i64 y)
          have b5 := ((HB.out.but.trans b4').setCell (p := ⟨w.heap.size + 1, 2, none⟩) (.inl (by show w.heap.size ≤ w.heap.size + 1; omega)) (.int .i64 x)).setCell (p := ⟨w.heap.size + 1, 3, none⟩) (.inl (by show w.heap.size ≤ w.heap.size + 1; omega)) (.int .i64 y)
          have o5 : Row _ (w.heap.size + 1) #[.slice va0 vl0 vc0, .slice ha hl' hc, .int .i64 x, .int .i64 y] 25 := (o4.set 2 (.int .i64 x)).set 3 (.int .i64 y)
          have a5 := Row.aside h4 k5 (by have := BL.out; omega)
          have r5 := r4.aside k5 (by omega)
          have n5 := own_keep n4 k5 (own_low n4 (by omega))
          have g5 := own_keep g4 k5 (own_low g4 (by have := HB.out.base; omega))
          obtain ⟨W5, hW5⟩ : ∃ V, (w4.setCell ⟨w.heap.size + 1, 2, none⟩ (.int .i64 x)).setCell ⟨w.heap.size + 1, 3, none⟩ (.int .i64 y) = V := ⟨_, rfl⟩
          rw [hW5] at b5 o5 a5 r5 n5 g5 k5
          have k6 : But w.heap.size W5 (W5.setRow w.heap.size #[.slice va0 vl0 vc0, .slice ha hl' hc, .int .i64 x, .int .i64 y]) := (But.refl _ _).setRow (.inr rfl) _
          have FIN := Lib.hid (show p6.bad = false ∧ RAt b p6.s (W5.setRow w.heap.size #[.slice va0 vl0 vc0, .slice ha hl' hc, .int .i64 x, .int .i64 y]) ∧ But b w (W5.setRow w.heap.size #[.slice va0 vl0 vc0, .slice ha hl' hc, .int .i64 x, .int .i64 y]) ∧ World.ownsRow (W5.setRow w.heap.size #[.slice va0 vl0 vc0, .slice ha hl' hc, .int .i64 x, .int .i64 y]) (w.heap.size + 2) 78 11 (.slice va0 vl0 vc0) ns.length (cellsOf Nd.c ns) ∧ World.ownsRow (W5.setRow w.heap.size #[.slice va0 vl0 vc0, .slice ha hl' hc, .int .i64 x, .int .i64 y]) (w.heap.size + 2) 81 6 (.slice ha hl' hc) hs.length (cellsOf Hs.c hs) from
            ⟨hq, Row.aside a5 k6 (by have := BL.out; omega), b5.setRow (.inl (Nat.le_refl _)) #[.slice va0 vl0 vc0, .slice ha hl' hc, .int .i64 x, .int .i64 y], own_keep n5 k6 (own_low n5 (by omega)), own_base (own_keep g5 k6 (own_low g5 (by have := HB.out.base; omega))) HB.out.base.1⟩)
          have R6 := Lib.hid (r5.setRow #[.slice va0 vl0 vc0, .slice ha hl' hc, .int .i64 x, .int .i64 y])
          have O5 := Lib.hid o5; have R5 := Lib.hid r5; have HW5 := Lib.hid hW5
          clear h4 b1 b4' o4 r4 n4 g4 k5 b5 o5 a5 r5 n5 g5 hW5 k6 hq
          go_wp2_with (first
            | (rw [HW5.out]; refine wpList_load_row rfl 25 _ rfl (w.heap.size + 1) rfl _ _ _ _ O5.out Try.underlying25 rfl config_len ?_)
            | (refine wpList_store_row rfl 25 _ _ rfl w.heap.size #[.slice va0 vl0 vc0, .slice ha hl' hc, .int .i64 x, .int .i64 y] rfl rfl _ _ R5.out config_len rfl (Cf.one _ _ _ _ _ _ _ _) ?_)
            | fail)
          refine bodyPost_ret (results_cell_row (p := 2) (by kernel_rfl) _ _ w.heap.size _ _ _ _ rfl R6.out Try.underlying25 rfl config_len) rfl ?_
          exact Or.inl ⟨FIN.out.1, _, _, rfl, FIN.out.2⟩

end Go.Proofs.Ytpnfhcpapjomnaa
