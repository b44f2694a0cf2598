/- The landed reader: a command. -/
import Derived.Test.YtpnfhcpapjomnaaPcJ
import Derived.Test.YtpnfhcpapjomnaaCmdK
namespace Go.Proofs.Ytpnfhcpapjomnaa
open Go.RowKit
set_option linter.unusedVariables false

theorem Cm.parseP_bad {s : ByteArray} {k : Int} {q : Cm.St} (e : Cm.num ⟨s, false⟩ = (k, q)) (h : q.bad = true) : (Cm.parseP s).2.bad = true := by
  obtain ⟨⟨c, r⟩, hr⟩ : ∃ r, Cm.parseP s = r := ⟨_, rfl⟩
  rw [hr]
  unfold Cm.parseP at hr
  rw [e] at hr
  simp only at hr
  by_cases k1 : k = 1
  · rw [if_pos k1] at hr
    obtain ⟨⟨⟨ns, hs, x, y⟩, q2⟩, e2⟩ : ∃ r, Cm.confP q = r := ⟨_, rfl⟩
    rw [e2] at hr
    obtain ⟨_, y2⟩ := Prod.mk.inj hr
    subst y2
    rcases hq : q2.bad with _ | _
    · have := (Cm.confP_only e2 hq).1
      rw [this] at h; cases h
    · rfl
  rw [if_neg k1] at hr
  by_cases k2 : k = 2
  · rw [if_pos k2] at hr
    have hb := Cm.gang_bad h
    obtain ⟨⟨g, q2⟩, e2⟩ : ∃ r, Cm.gang q = r := ⟨_, rfl⟩
    rw [e2] at hr hb
    obtain ⟨_, y2⟩ := Prod.mk.inj hr
    subst y2
    exact hb
  rw [if_neg k2] at hr
  by_cases k3 : k = 3 ∨ k = 4 ∨ k = 5
  · rw [if_pos k3] at hr
    obtain ⟨⟨g, q2⟩, e2⟩ : ∃ r, Cm.num q = r := ⟨_, rfl⟩
    rw [e2] at hr
    obtain ⟨_, y2⟩ := Prod.mk.inj hr
    subst y2
    exact Cm.num_bad' e2 h
  rw [if_neg k3] at hr
  obtain ⟨_, y2⟩ := Prod.mk.inj hr
  subst y2
  exact h
theorem gangOf_cells (b : Nat) (p : Cm.St) (w : World) (hb : p.bad = false) (h : RAt b p.s w) : Calls Try.prog 49 #[.pointer (some ⟨b, 0, none⟩)] w (RdP b w (.agg (Cm.gang p).1.c) (Cm.gang p).2) := gangOf_at b p w hb h

/-- A command is read, or the reading is given up. -/
def CoP (b : Nat) (w : World) (r : Cmd × Cm.St) (e : Ending) (w' : World) : Prop :=
  (r.2.bad = false ∧ ∃ vn vh : Value, e = .returned (.agg (r.1.c vn vh)) ∧ RAt b r.2.s w' ∧ But b w w' ∧ w'.ownsRow (w.heap.size + 1) 78 11 vn r.1.nodes.length (cellsOf Nd.c r.1.nodes) ∧ w'.ownsRow (w.heap.size + 1) 81 6 vh r.1.hosts.length (cellsOf Hs.c r.1.hosts)) ∨
  (r.2.bad = true ∧ e = .panicked [{ v := .iface 34 (.int .i64 10), recovered := false }] ∧ But b w w')
theorem CoP.no {b : Nat} {w w' : World} {r : Cmd × Cm.St} (h : r.2.bad = true) (hb : But b w w') : CoP b w r (.panicked [{ v := .iface 34 (.int .i64 10), recovered := false }]) w' := .inr ⟨h, rfl, hb⟩

set_option maxHeartbeats 2000000 in
set_option maxRecDepth 8000 in
theorem commandOf_any (b : Nat) (s : ByteArray) (w : World) (h : RAt b s w) : Calls Try.prog 31 #[.pointer (some ⟨b, 0, none⟩)] w (CoP b w (Cm.parseP s)) := by
  have hparse : Cm.parseP s = if (Cm.num ⟨s, false⟩).1 = 1 then (⟨(Cm.num ⟨s, false⟩).1, (Cm.confP (Cm.num ⟨s, false⟩).2).1.1, (Cm.confP (Cm.num ⟨s, false⟩).2).1.2.1, (Cm.confP (Cm.num ⟨s, false⟩).2).1.2.2.1, (Cm.confP (Cm.num ⟨s, false⟩).2).1.2.2.2, Cm.zG, 0⟩, (Cm.confP (Cm.num ⟨s, false⟩).2).2)
    else if (Cm.num ⟨s, false⟩).1 = 2 then (⟨(Cm.num ⟨s, false⟩).1, [], [], 0, 0, (Cm.gang (Cm.num ⟨s, false⟩).2).1, 0⟩, (Cm.gang (Cm.num ⟨s, false⟩).2).2)
    else if (Cm.num ⟨s, false⟩).1 = 3 ∨ (Cm.num ⟨s, false⟩).1 = 4 ∨ (Cm.num ⟨s, false⟩).1 = 5 then (⟨(Cm.num ⟨s, false⟩).1, [], [], 0, 0, Cm.zG, (Cm.num (Cm.num ⟨s, false⟩).2).1⟩, (Cm.num (Cm.num ⟨s, false⟩).2).2)
    else (⟨(Cm.num ⟨s, false⟩).1, [], [], 0, 0, Cm.zG, 0⟩, (Cm.num ⟨s, false⟩).2) := rfl
  have c0 := fun w => number_any b s w
  obtain ⟨⟨k, q⟩, e1⟩ : ∃ r, Cm.num ⟨s, false⟩ = r := ⟨_, rfl⟩
  have hbad := Cm.parseP_bad e1
  rw [e1] at hparse c0
  simp only at hparse c0
  obtain ⟨PP, hPP⟩ : ∃ r, Cm.parseP s = r := ⟨_, rfl⟩
  rw [hPP] at hparse hbad ⊢
  have HPAR := Lib.hid hparse; have C0 := Lib.hid c0; have HBAD := Lib.hid hbad; have HP := Lib.hid h
  have hbl : b < w.heap.size := h.lt
  clear hparse c0 hbad hPP e1
  have H0 := Lib.hid (show RAt b s (w.alloc (.cells #[.int .i64 0, .slice none 0 0, .slice none 0 0, .int .i64 0, .int .i64 0, .int .i64 0, .int .i64 0, .int .i64 0, .int .i64 0, .int .i64 0, .int .i64 0, .int .i64 0, .int .i64 0, .int .i64 0, .int .i64 0] 31)) from h.under ((Below.refl _ _).alloc (Nat.le_refl _) _))
  have B0 := Lib.hid ((But.refl b w).alloc (.cells #[.int .i64 0, .slice none 0 0, .slice none 0 0, .int .i64 0, .int .i64 0, .int .i64 0, .int .i64 0, .int .i64 0, .int .i64 0, .int .i64 0, .int .i64 0, .int .i64 0, .int .i64 0, .int .i64 0, .int .i64 0] 31))
  have R0 := Lib.hid (Row.new w #[.int .i64 0, .slice none 0 0, .slice none 0 0, .int .i64 0, .int .i64 0, .int .i64 0, .int .i64 0, .int .i64 0, .int .i64 0, .int .i64 0, .int .i64 0, .int .i64 0, .int .i64 0, .int .i64 0, .int .i64 0] 31)
  have BL := Lib.hid hbl
  clear h hbl
  go_enter Try.func31, Try.ntmps31
  go_wp2_with fail
  refine (C0.out _ H0.out).mono ?_
  rintro er w1 (⟨hq, rfl, h1, b2⟩ | ⟨hq, rfl, b2⟩)
  case inr =>
    have G := Lib.hid (CoP.no (b := b) (w := w) (r := PP) (HBAD.out hq) (B0.out.trans b2))
    clear b2 hq
    go_wp2_with fail
    exact ⟨rfl, G.out⟩
  have z1 : w.heap.size + 1 ≤ w1.heap.size := by have := b2.size; rw [World.size_alloc] at this; exact this
  have r1 := R0.out.keep b2 (by have := BL.out; omega)
  have k1 : But w1.heap.size w1 (w1.alloc (.cells #[.int .i64 k, .slice none 0 0, .slice none 0 0, .int .i64 0, .int .i64 0, .int .i64 0, .int .i64 0, .int .i64 0, .int .i64 0, .int .i64 0, .int .i64 0, .int .i64 0, .int .i64 0, .int .i64 0, .int .i64 0] 31)) := (But.refl _ _).alloc _
  have D1 := Lib.hid (Row.new w1 #[.int .i64 k, .slice none 0 0, .slice none 0 0, .int .i64 0, .int .i64 0, .int .i64 0, .int .i64 0, .int .i64 0, .int .i64 0, .int .i64 0, .int .i64 0, .int .i64 0, .int .i64 0, .int .i64 0, .int .i64 0] 31)
  have H1 := Lib.hid (show RAt b q.s (w1.alloc (.cells #[.int .i64 k, .slice none 0 0, .slice none 0 0, .int .i64 0, .int .i64 0, .int .i64 0, .int .i64 0, .int .i64 0, .int .i64 0, .int .i64 0, .int .i64 0, .int .i64 0, .int .i64 0, .int .i64 0, .int .i64 0] 31)) from Row.aside h1 k1 (by have := BL.out; omega))
  have R1 := Lib.hid (r1.aside k1 (by omega))
  have B1 := Lib.hid ((B0.out.trans b2).alloc (.cells #[.int .i64 k, .slice none 0 0, .slice none 0 0, .int .i64 0, .int .i64 0, .int .i64 0, .int .i64 0, .int .i64 0, .int .i64 0, .int .i64 0, .int .i64 0, .int .i64 0, .int .i64 0, .int .i64 0, .int .i64 0] 31))
  have Z1 := Lib.hid z1; have Q1 := Lib.hid hq
  clear h1 b2 z1 r1 k1 hq
  by_cases k1 : k = 1
  · subst k1
    have hp := HPAR.out
    rw [if_pos rfl] at hp
    have cf := fun w => configOf_at b q w
    obtain ⟨⟨⟨ns, hs, x, y⟩, q2⟩, e2⟩ : ∃ r, Cm.confP q = r := ⟨_, rfl⟩
    rw [e2] at hp cf
    simp only at hp cf
    have HPP := Lib.hid hp; have CFF := Lib.hid cf
    clear hp cf e2
    go_wp2_with fail
    refine (CFF.out _ Q1.out H1.out).mono ?_
    rintro er w2 (⟨hq, vn, vh, rfl, h2, b2, n2, m2⟩ | ⟨hq, rfl, b2⟩)
    case inr =>
      have G := Lib.hid (CoP.no (b := b) (w := w) (r := PP) (by rw [HPP.out]; exact hq) (B1.out.trans b2))
      clear b2 hq
      go_wp2_with fail
      exact ⟨rfl, G.out⟩
    obtain ⟨na, nl, nc, rfl⟩ := own_form n2
    obtain ⟨ha, hl, hc, rfl⟩ := own_form m2
    have zz := Z1.out
    have sz : (w1.alloc (.cells #[.int .i64 1, .slice none 0 0, .slice none 0 0, .int .i64 0, .int .i64 0, .int .i64 0, .int .i64 0, .int .i64 0, .int .i64 0, .int .i64 0, .int .i64 0, .int .i64 0, .int .i64 0, .int .i64 0, .int .i64 0] 31)).heap.size = w1.heap.size + 1 := World.size_alloc _ _
    have d2 := D1.out.keep b2 (by have := BL.out; omega)
    have r2 := R1.out.keep b2 (by have := BL.out; omega)
    have g2 := B1.out.trans b2
    rw [sz] at n2 m2
    have t2 := d2.there 1 4 (by simp)
    have d3 : Row (w2.setCells w1.heap.size 1 [.slice na nl nc, .slice ha hl hc, .int .i64 x, .int .i64 y]) w1.heap.size #[.int .i64 1, .slice na nl nc, .slice ha hl hc, .int .i64 x, .int .i64 y, .int .i64 0, .int .i64 0, .int .i64 0, .int .i64 0, .int .i64 0, .int .i64 0, .int .i64 0, .int .i64 0, .int .i64 0, .int .i64 0] 31 := (show Row _ _ #[.int .i64 1, .slice na nl nc, .slice ha hl hc, .int .i64 x, .int .i64 0, .int .i64 0, .int .i64 0, .int .i64 0, .int .i64 0, .int .i64 0, .int .i64 0, .int .i64 0, .int .i64 0, .int .i64 0, .int .i64 0] _ from d2.set3 1 (.slice na nl nc) (.slice ha hl hc) (.int .i64 x)).set 4 (.int .i64 y)
    have k3 : But w1.heap.size w2 (w2.setCells w1.heap.size 1 [.slice na nl nc, .slice ha hl hc, .int .i64 x, .int .i64 y]) := ((But.refl w1.heap.size w2).set3 (g := w1.heap.size) (.inr rfl) 1 (.slice na nl nc) (.slice ha hl hc) (.int .i64 x)).setCell (p := ⟨w1.heap.size, 4, none⟩) (.inr rfl) (.int .i64 y)
    obtain ⟨V3, hV3⟩ : ∃ V, w2.setCells w1.heap.size 1 [.slice na nl nc, .slice ha hl hc, .int .i64 x, .int .i64 y] = V := ⟨_, rfl⟩
    rw [hV3] at d3 k3
    have n3 := own_keep n2 k3 (own_low n2 (by omega))
    have m3 := own_keep m2 k3 (own_low m2 (by omega))
    have kb : But b w V3 := ⟨k3.os.trans g2.os, k3.tape.trans g2.tape, k3.output.trans g2.output, Nat.le_trans g2.size k3.size, fun j hj hne => (k3.block j (Nat.lt_of_lt_of_le hj g2.size) (by omega)).trans (g2.block j hj hne)⟩
    have A3 := Lib.hid (show RAt b q2.s V3 from Row.aside h2 k3 (by have := BL.out; omega))
    have R3 := Lib.hid (r2.aside k3 (by omega)); have B3 := Lib.hid kb; have D3 := Lib.hid d3; have T2 := Lib.hid t2; have N3 := Lib.hid n3; have M3 := Lib.hid m3; have HV3 := Lib.hid hV3; have Q2 := Lib.hid hq
    clear h2 b2 n2 m2 zz sz d2 r2 g2 t2 d3 k3 kb n3 m3 hV3 hq
    go_upto_region 11 with (first | (refine wpList_store_mid rfl 25 _ _ rfl w1.heap.size 1 #[.slice na nl nc, .slice ha hl hc, .int .i64 x, .int .i64 y] rfl rfl T2.out config_len (Cf.one _ _ _ _ _ _ _ _) ?_; rw [show (#[.slice na nl nc, .slice ha hl hc, .int .i64 x, .int .i64 y] : Array Value).toList = [.slice na nl nc, .slice ha hl hc, .int .i64 x, .int .i64 y] from rfl, HV3.out]) | fail)
    go_wp2_with (first
      | (refine wpList_load_row rfl 31 _ rfl w1.heap.size rfl _ _ _ _ D3.out Try.underlying31 rfl command_len ?_)
      | (refine wpList_store_row rfl 31 _ _ rfl w.heap.size #[.int .i64 1, .slice na nl nc, .slice ha hl hc, .int .i64 x, .int .i64 y, .int .i64 0, .int .i64 0, .int .i64 0, .int .i64 0, .int .i64 0, .int .i64 0, .int .i64 0, .int .i64 0, .int .i64 0, .int .i64 0] rfl rfl _ _ R3.out command_len rfl (command_one (⟨1, ns, hs, x, y, Cm.zG, 0⟩ : Cmd) _ _ _ _ _ _) ?_)
      | fail)
    have k6 : But w.heap.size V3 (V3.setRow w.heap.size #[.int .i64 1, .slice na nl nc, .slice ha hl hc, .int .i64 x, .int .i64 y, .int .i64 0, .int .i64 0, .int .i64 0, .int .i64 0, .int .i64 0, .int .i64 0, .int .i64 0, .int .i64 0, .int .i64 0, .int .i64 0]) := (But.refl _ _).setRow (.inr rfl) _
    refine bodyPost_ret (results_cell_row (p := 2) (by kernel_rfl) _ _ w.heap.size _ _ _ _ rfl (R3.out.setRow #[.int .i64 1, .slice na nl nc, .slice ha hl hc, .int .i64 x, .int .i64 y, .int .i64 0, .int .i64 0, .int .i64 0, .int .i64 0, .int .i64 0, .int .i64 0, .int .i64 0, .int .i64 0, .int .i64 0, .int .i64 0]) Try.underlying31 rfl command_len) rfl ?_
    rw [HPP.out]
    exact Or.inl ⟨Q2.out, .slice na nl nc, .slice ha hl hc, rfl, Row.aside A3.out k6 (by have := BL.out; omega), B3.out.setRow (.inl (Nat.le_refl _)) _, own_keep (own_base N3.out (by have := Z1.out; omega)) k6 (own_low N3.out (by have := Z1.out; omega)), own_keep (own_base M3.out (by have := Z1.out; omega)) k6 (own_low M3.out (by have := Z1.out; omega))⟩
  by_cases k2 : k = 2
  · subst k2
    have hp := HPAR.out
    rw [if_neg (by decide), if_pos rfl] at hp
    have cf := fun w => gangOf_cells b q w
    obtain ⟨⟨⟨a1, a2, a3, ⟨x, y, z⟩, a4, a5, a6⟩, q2⟩, e2⟩ : ∃ r, Cm.gang q = r := ⟨_, rfl⟩
    rw [e2] at hp cf
    simp only [Gg.c] at hp cf
    have HPP := Lib.hid hp; have CFF := Lib.hid cf
    clear hp cf e2 k1
    go_wp2_with fail
    refine (CFF.out _ Q1.out H1.out).mono ?_
    rintro er w2 (⟨hq, rfl, h2, b2⟩ | ⟨hq, rfl, b2⟩)
    case inr =>
      have G := Lib.hid (CoP.no (b := b) (w := w) (r := PP) (by rw [HPP.out]; exact hq) (B1.out.trans b2))
      clear b2 hq
      go_wp2_with fail
      exact ⟨rfl, G.out⟩
    have zz := Z1.out
    have sz : (w1.alloc (.cells #[.int .i64 2, .slice none 0 0, .slice none 0 0, .int .i64 0, .int .i64 0, .int .i64 0, .int .i64 0, .int .i64 0, .int .i64 0, .int .i64 0, .int .i64 0, .int .i64 0, .int .i64 0, .int .i64 0, .int .i64 0] 31)).heap.size = w1.heap.size + 1 := World.size_alloc _ _
    have d2 := D1.out.keep b2 (by have := BL.out; omega)
    have r2 := R1.out.keep b2 (by have := BL.out; omega)
    have g2 := B1.out.trans b2
    have t2 := d2.there 5 9 (by simp)
    have d3 : Row _ w1.heap.size #[.int .i64 2, .slice none 0 0, .slice none 0 0, .int .i64 0, .int .i64 0, .int .i64 a1, .int .i64 a2, .int .i64 a3, .int .i64 0, .int .i64 0, .int .i64 0, .int .i64 0, .int .i64 0, .int .i64 0, .int .i64 0] 31 := d2.set3 5 (.int .i64 a1) (.int .i64 a2) (.int .i64 a3)
    have d4 : Row _ w1.heap.size #[.int .i64 2, .slice none 0 0, .slice none 0 0, .int .i64 0, .int .i64 0, .int .i64 a1, .int .i64 a2, .int .i64 a3, .int .i64 x, .int .i64 y, .int .i64 z, .int .i64 0, .int .i64 0, .int .i64 0, .int .i64 0] 31 := d3.set3 8 (.int .i64 x) (.int .i64 y) (.int .i64 z)
    have d5 : Row _ w1.heap.size #[.int .i64 2, .slice none 0 0, .slice none 0 0, .int .i64 0, .int .i64 0, .int .i64 a1, .int .i64 a2, .int .i64 a3, .int .i64 x, .int .i64 y, .int .i64 z, .int .i64 a4, .int .i64 a5, .int .i64 a6, .int .i64 0] 31 := d4.set3 11 (.int .i64 a4) (.int .i64 a5) (.int .i64 a6)
    have k3 := (((But.refl w1.heap.size w2).set3 (g := w1.heap.size) (.inr rfl) 5 (.int .i64 a1) (.int .i64 a2) (.int .i64 a3)).set3 (g := w1.heap.size) (.inr rfl) 8 (.int .i64 x) (.int .i64 y) (.int .i64 z)).set3 (g := w1.heap.size) (.inr rfl) 11 (.int .i64 a4) (.int .i64 a5) (.int .i64 a6)
    have hsp : w2.setCells w1.heap.size 5 [.int .i64 a1, .int .i64 a2, .int .i64 a3, .int .i64 x, .int .i64 y, .int .i64 z, .int .i64 a4, .int .i64 a5, .int .i64 a6] = ((w2.setCells w1.heap.size 5 [.int .i64 a1, .int .i64 a2, .int .i64 a3]).setCells w1.heap.size 8 [.int .i64 x, .int .i64 y, .int .i64 z]).setCells w1.heap.size 11 [.int .i64 a4, .int .i64 a5, .int .i64 a6] := (setCells_three _ _ 5 _ _ _ _).trans (setCells_three _ _ 8 _ _ _ _)
    obtain ⟨V3, hV3⟩ : ∃ V, w2.setCells w1.heap.size 5 [.int .i64 a1, .int .i64 a2, .int .i64 a3, .int .i64 x, .int .i64 y, .int .i64 z, .int .i64 a4, .int .i64 a5, .int .i64 a6] = V := ⟨_, rfl⟩
    rw [← hsp, hV3] at d5 k3
    clear hsp
    have kb : But b w V3 := ⟨k3.os.trans g2.os, k3.tape.trans g2.tape, k3.output.trans g2.output, Nat.le_trans g2.size k3.size, fun j hj hne => (k3.block j (Nat.lt_of_lt_of_le hj g2.size) (by omega)).trans (g2.block j hj hne)⟩
    have A3 := Lib.hid (show RAt b q2.s V3 from Row.aside h2 k3 (by have := BL.out; omega))
    have R3 := Lib.hid (r2.aside k3 (by omega)); have B3 := Lib.hid kb; have D3 := Lib.hid d5; have T2 := Lib.hid t2; have HV3 := Lib.hid hV3; have Q2 := Lib.hid hq
    clear h2 b2 zz sz d2 r2 g2 t2 d3 d4 d5 k3 kb hV3 hq
    go_upto_region 11 with (first | (refine wpList_store_mid rfl 29 _ _ rfl w1.heap.size 5 #[.int .i64 a1, .int .i64 a2, .int .i64 a3, .int .i64 x, .int .i64 y, .int .i64 z, .int .i64 a4, .int .i64 a5, .int .i64 a6] rfl rfl T2.out gang_len (Gg.one _ _ _ _ _ _ _ _ _) ?_; rw [show (#[.int .i64 a1, .int .i64 a2, .int .i64 a3, .int .i64 x, .int .i64 y, .int .i64 z, .int .i64 a4, .int .i64 a5, .int .i64 a6] : Array Value).toList = [.int .i64 a1, .int .i64 a2, .int .i64 a3, .int .i64 x, .int .i64 y, .int .i64 z, .int .i64 a4, .int .i64 a5, .int .i64 a6] from rfl, HV3.out]) | fail)
    go_wp2_with (first
      | (refine wpList_load_row rfl 31 _ rfl w1.heap.size rfl _ _ _ _ D3.out Try.underlying31 rfl command_len ?_)
      | (refine wpList_store_row rfl 31 _ _ rfl w.heap.size #[.int .i64 2, .slice none 0 0, .slice none 0 0, .int .i64 0, .int .i64 0, .int .i64 a1, .int .i64 a2, .int .i64 a3, .int .i64 x, .int .i64 y, .int .i64 z, .int .i64 a4, .int .i64 a5, .int .i64 a6, .int .i64 0] rfl rfl _ _ R3.out command_len rfl (command_one (⟨2, [], [], 0, 0, ⟨a1, a2, a3, ⟨x, y, z⟩, a4, a5, a6⟩, 0⟩ : Cmd) none none 0 0 0 0) ?_)
      | fail)
    have k6 : But w.heap.size V3 (V3.setRow w.heap.size #[.int .i64 2, .slice none 0 0, .slice none 0 0, .int .i64 0, .int .i64 0, .int .i64 a1, .int .i64 a2, .int .i64 a3, .int .i64 x, .int .i64 y, .int .i64 z, .int .i64 a4, .int .i64 a5, .int .i64 a6, .int .i64 0]) := (But.refl _ _).setRow (.inr rfl) _
    refine bodyPost_ret (results_cell_row (p := 2) (by kernel_rfl) _ _ w.heap.size _ _ _ _ rfl (R3.out.setRow #[.int .i64 2, .slice none 0 0, .slice none 0 0, .int .i64 0, .int .i64 0, .int .i64 a1, .int .i64 a2, .int .i64 a3, .int .i64 x, .int .i64 y, .int .i64 z, .int .i64 a4, .int .i64 a5, .int .i64 a6, .int .i64 0]) Try.underlying31 rfl command_len) rfl ?_
    rw [HPP.out]
    exact Or.inl ⟨Q2.out, .slice none 0 0, .slice none 0 0, rfl, Row.aside A3.out k6 (by have := BL.out; omega), B3.out.setRow (.inl (Nat.le_refl _)) _, World.ownsRow_nil _ _ _ _, World.ownsRow_nil _ _ _ _⟩
  by_cases k3 : k = 3 ∨ k = 4 ∨ k = 5
  · have hp := HPAR.out
    rw [if_neg k1, if_neg k2, if_pos k3] at hp
    have cf := fun w => number_at b q w
    obtain ⟨⟨x, q2⟩, e2⟩ : ∃ r, Cm.num q = r := ⟨_, rfl⟩
    rw [e2] at hp cf
    simp only at hp cf
    have HPP := Lib.hid hp; have CFF := Lib.hid cf
    clear hp cf e2 k1 k2
    rcases k3 with h | h | h
    · subst h
      go_wp2_with fail
      refine (CFF.out _ Q1.out H1.out).mono ?_
      rintro er w2 (⟨hq, rfl, h2, b2⟩ | ⟨hq, rfl, b2⟩)
      case inr =>
        have G := Lib.hid (CoP.no (b := b) (w := w) (r := PP) (by rw [HPP.out]; exact hq) (B1.out.trans b2))
        clear b2 hq
        go_wp2_with fail
        exact ⟨rfl, G.out⟩
      have zz := Z1.out
      have sz : (w1.alloc (.cells #[.int .i64 3, .slice none 0 0, .slice none 0 0, .int .i64 0, .int .i64 0, .int .i64 0, .int .i64 0, .int .i64 0, .int .i64 0, .int .i64 0, .int .i64 0, .int .i64 0, .int .i64 0, .int .i64 0, .int .i64 0] 31)).heap.size = w1.heap.size + 1 := World.size_alloc _ _
      have d2 := D1.out.keep b2 (by have := BL.out; omega)
      have r2 := R1.out.keep b2 (by have := BL.out; omega)
      have g2 := B1.out.trans b2
      have c14 : w2.cell? ⟨w1.heap.size, 14, none⟩ = some (.int .i64 0) := d2.at_ 14
      have f14 := d2.soft 14
      have d3 : Row _ w1.heap.size #[.int .i64 3, .slice none 0 0, .slice none 0 0, .int .i64 0, .int .i64 0, .int .i64 0, .int .i64 0, .int .i64 0, .int .i64 0, .int .i64 0, .int .i64 0, .int .i64 0, .int .i64 0, .int .i64 0, .int .i64 x] 31 := d2.set 14 (.int .i64 x)
      have k3 := (But.refl w1.heap.size w2).setCell (p := ⟨w1.heap.size, 14, none⟩) (.inr rfl) (.int .i64 x)
      obtain ⟨V3, hV3⟩ : ∃ V, w2.setCell ⟨w1.heap.size, 14, none⟩ (.int .i64 x) = V := ⟨_, rfl⟩
      rw [hV3] at d3 k3
      have kb : But b w V3 := ⟨k3.os.trans g2.os, k3.tape.trans g2.tape, k3.output.trans g2.output, Nat.le_trans g2.size k3.size, fun j hj hne => (k3.block j (Nat.lt_of_lt_of_le hj g2.size) (by omega)).trans (g2.block j hj hne)⟩
      have A3 := Lib.hid (show RAt b q2.s V3 from Row.aside h2 k3 (by have := BL.out; omega))
      have R3 := Lib.hid (r2.aside k3 (by omega)); have B3 := Lib.hid kb; have D3 := Lib.hid d3; have Q2 := Lib.hid hq
      clear h2 b2 zz sz d2 r2 g2 d3 k3 kb hq
      go_upto_region 11 with fail
      clear hV3 c14 f14
      go_wp2_with (first
        | (refine wpList_load_row rfl 31 _ rfl w1.heap.size rfl _ _ _ _ D3.out Try.underlying31 rfl command_len ?_)
        | (refine wpList_store_row rfl 31 _ _ rfl w.heap.size #[.int .i64 3, .slice none 0 0, .slice none 0 0, .int .i64 0, .int .i64 0, .int .i64 0, .int .i64 0, .int .i64 0, .int .i64 0, .int .i64 0, .int .i64 0, .int .i64 0, .int .i64 0, .int .i64 0, .int .i64 x] rfl rfl _ _ R3.out command_len rfl (command_one (⟨3, [], [], 0, 0, Cm.zG, x⟩ : Cmd) none none 0 0 0 0) ?_)
        | fail)
      have k6 : But w.heap.size V3 (V3.setRow w.heap.size #[.int .i64 3, .slice none 0 0, .slice none 0 0, .int .i64 0, .int .i64 0, .int .i64 0, .int .i64 0, .int .i64 0, .int .i64 0, .int .i64 0, .int .i64 0, .int .i64 0, .int .i64 0, .int .i64 0, .int .i64 x]) := (But.refl _ _).setRow (.inr rfl) _
      refine bodyPost_ret (results_cell_row (p := 2) (by kernel_rfl) _ _ w.heap.size _ _ _ _ rfl (R3.out.setRow #[.int .i64 3, .slice none 0 0, .slice none 0 0, .int .i64 0, .int .i64 0, .int .i64 0, .int .i64 0, .int .i64 0, .int .i64 0, .int .i64 0, .int .i64 0, .int .i64 0, .int .i64 0, .int .i64 0, .int .i64 x]) Try.underlying31 rfl command_len) rfl ?_
      rw [HPP.out]
      exact Or.inl ⟨Q2.out, .slice none 0 0, .slice none 0 0, rfl, Row.aside A3.out k6 (by have := BL.out; omega), B3.out.setRow (.inl (Nat.le_refl _)) _, World.ownsRow_nil _ _ _ _, World.ownsRow_nil _ _ _ _⟩
    · subst h
      go_wp2_with fail
      refine (CFF.out _ Q1.out H1.out).mono ?_
      rintro er w2 (⟨hq, rfl, h2, b2⟩ | ⟨hq, rfl, b2⟩)
      case inr =>
        have G := Lib.hid (CoP.no (b := b) (w := w) (r := PP) (by rw [HPP.out]; exact hq) (B1.out.trans b2))
        clear b2 hq
        go_wp2_with fail
        exact ⟨rfl, G.out⟩
      have zz := Z1.out
      have sz : (w1.alloc (.cells #[.int .i64 4, .slice none 0 0, .slice none 0 0, .int .i64 0, .int .i64 0, .int .i64 0, .int .i64 0, .int .i64 0, .int .i64 0, .int .i64 0, .int .i64 0, .int .i64 0, .int .i64 0, .int .i64 0, .int .i64 0] 31)).heap.size = w1.heap.size + 1 := World.size_alloc _ _
      have d2 := D1.out.keep b2 (by have := BL.out; omega)
      have r2 := R1.out.keep b2 (by have := BL.out; omega)
      have g2 := B1.out.trans b2
      have c14 : w2.cell? ⟨w1.heap.size, 14, none⟩ = some (.int .i64 0) := d2.at_ 14
      have f14 := d2.soft 14
      have d3 : Row _ w1.heap.size #[.int .i64 4, .slice none 0 0, .slice none 0 0, .int .i64 0, .int .i64 0, .int .i64 0, .int .i64 0, .int .i64 0, .int .i64 0, .int .i64 0, .int .i64 0, .int .i64 0, .int .i64 0, .int .i64 0, .int .i64 x] 31 := d2.set 14 (.int .i64 x)
      have k3 := (But.refl w1.heap.size w2).setCell (p := ⟨w1.heap.size, 14, none⟩) (.inr rfl) (.int .i64 x)
      obtain ⟨V3, hV3⟩ : ∃ V, w2.setCell ⟨w1.heap.size, 14, none⟩ (.int .i64 x) = V := ⟨_, rfl⟩
      rw [hV3] at d3 k3
      have kb : But b w V3 := ⟨k3.os.trans g2.os, k3.tape.trans g2.tape, k3.output.trans g2.output, Nat.le_trans g2.size k3.size, fun j hj hne => (k3.block j (Nat.lt_of_lt_of_le hj g2.size) (by omega)).trans (g2.block j hj hne)⟩
      have A3 := Lib.hid (show RAt b q2.s V3 from Row.aside h2 k3 (by have := BL.out; omega))
      have R3 := Lib.hid (r2.aside k3 (by omega)); have B3 := Lib.hid kb; have D3 := Lib.hid d3; have Q2 := Lib.hid hq
      clear h2 b2 zz sz d2 r2 g2 d3 k3 kb hq
      go_upto_region 11 with fail
      clear hV3 c14 f14
      go_wp2_with (first
        | (refine wpList_load_row rfl 31 _ rfl w1.heap.size rfl _ _ _ _ D3.out Try.underlying31 rfl command_len ?_)
        | (refine wpList_store_row rfl 31 _ _ rfl w.heap.size #[.int .i64 4, .slice none 0 0, .slice none 0 0, .int .i64 0, .int .i64 0, .int .i64 0, .int .i64 0, .int .i64 0, .int .i64 0, .int .i64 0, .int .i64 0, .int .i64 0, .int .i64 0, .int .i64 0, .int .i64 x] rfl rfl _ _ R3.out command_len rfl (command_one (⟨4, [], [], 0, 0, Cm.zG, x⟩ : Cmd) none none 0 0 0 0) ?_)
        | fail)
      have k6 : But w.heap.size V3 (V3.setRow w.heap.size #[.int .i64 4, .slice none 0 0, .slice none 0 0, .int .i64 0, .int .i64 0, .int .i64 0, .int .i64 0, .int .i64 0, .int .i64 0, .int .i64 0, .int .i64 0, .int .i64 0, .int .i64 0, .int .i64 0, .int .i64 x]) := (But.refl _ _).setRow (.inr rfl) _
      refine bodyPost_ret (results_cell_row (p := 2) (by kernel_rfl) _ _ w.heap.size _ _ _ _ rfl (R3.out.setRow #[.int .i64 4, .slice none 0 0, .slice none 0 0, .int .i64 0, .int .i64 0, .int .i64 0, .int .i64 0, .int .i64 0, .int .i64 0, .int .i64 0, .int .i64 0, .int .i64 0, .int .i64 0, .int .i64 0, .int .i64 x]) Try.underlying31 rfl command_len) rfl ?_
      rw [HPP.out]
      exact Or.inl ⟨Q2.out, .slice none 0 0, .slice none 0 0, rfl, Row.aside A3.out k6 (by have := BL.out; omega), B3.out.setRow (.inl (Nat.le_refl _)) _, World.ownsRow_nil _ _ _ _, World.ownsRow_nil _ _ _ _⟩
    · subst h
      go_wp2_with fail
      refine (CFF.out _ Q1.out H1.out).mono ?_
      rintro er w2 (⟨hq, rfl, h2, b2⟩ | ⟨hq, rfl, b2⟩)
      case inr =>
        have G := Lib.hid (CoP.no (b := b) (w := w) (r := PP) (by rw [HPP.out]; exact hq) (B1.out.trans b2))
        clear b2 hq
        go_wp2_with fail
        exact ⟨rfl, G.out⟩
      have zz := Z1.out
      have sz : (w1.alloc (.cells #[.int .i64 5, .slice none 0 0, .slice none 0 0, .int .i64 0, .int .i64 0, .int .i64 0, .int .i64 0, .int .i64 0, .int .i64 0, .int .i64 0, .int .i64 0, .int .i64 0, .int .i64 0, .int .i64 0, .int .i64 0] 31)).heap.size = w1.heap.size + 1 := World.size_alloc _ _
      have d2 := D1.out.keep b2 (by have := BL.out; omega)
      have r2 := R1.out.keep b2 (by have := BL.out; omega)
      have g2 := B1.out.trans b2
      have c14 : w2.cell? ⟨w1.heap.size, 14, none⟩ = some (.int .i64 0) := d2.at_ 14
      have f14 := d2.soft 14
      have d3 : Row _ w1.heap.size #[.int .i64 5, .slice none 0 0, .slice none 0 0, .int .i64 0, .int .i64 0, .int .i64 0, .int .i64 0, .int .i64 0, .int .i64 0, .int .i64 0, .int .i64 0, .int .i64 0, .int .i64 0, .int .i64 0, .int .i64 x] 31 := d2.set 14 (.int .i64 x)
      have k3 := (But.refl w1.heap.size w2).setCell (p := ⟨w1.heap.size, 14, none⟩) (.inr rfl) (.int .i64 x)
      obtain ⟨V3, hV3⟩ : ∃ V, w2.setCell ⟨w1.heap.size, 14, none⟩ (.int .i64 x) = V := ⟨_, rfl⟩
      rw [hV3] at d3 k3
      have kb : But b w V3 := ⟨k3.os.trans g2.os, k3.tape.trans g2.tape, k3.output.trans g2.output, Nat.le_trans g2.size k3.size, fun j hj hne => (k3.block j (Nat.lt_of_lt_of_le hj g2.size) (by omega)).trans (g2.block j hj hne)⟩
      have A3 := Lib.hid (show RAt b q2.s V3 from Row.aside h2 k3 (by have := BL.out; omega))
      have R3 := Lib.hid (r2.aside k3 (by omega)); have B3 := Lib.hid kb; have D3 := Lib.hid d3; have Q2 := Lib.hid hq
      clear h2 b2 zz sz d2 r2 g2 d3 k3 kb hq
      go_upto_region 11 with fail
      clear hV3 c14 f14
      go_wp2_with (first
        | (refine wpList_load_row rfl 31 _ rfl w1.heap.size rfl _ _ _ _ D3.out Try.underlying31 rfl command_len ?_)
        | (refine wpList_store_row rfl 31 _ _ rfl w.heap.size #[.int .i64 5, .slice none 0 0, .slice none 0 0, .int .i64 0, .int .i64 0, .int .i64 0, .int .i64 0, .int .i64 0, .int .i64 0, .int .i64 0, .int .i64 0, .int .i64 0, .int .i64 0, .int .i64 0, .int .i64 x] rfl rfl _ _ R3.out command_len rfl (command_one (⟨5, [], [], 0, 0, Cm.zG, x⟩ : Cmd) none none 0 0 0 0) ?_)
        | fail)
      have k6 : But w.heap.size V3 (V3.setRow w.heap.size #[.int .i64 5, .slice none 0 0, .slice none 0 0, .int .i64 0, .int .i64 0, .int .i64 0, .int .i64 0, .int .i64 0, .int .i64 0, .int .i64 0, .int .i64 0, .int .i64 0, .int .i64 0, .int .i64 0, .int .i64 x]) := (But.refl _ _).setRow (.inr rfl) _
      refine bodyPost_ret (results_cell_row (p := 2) (by kernel_rfl) _ _ w.heap.size _ _ _ _ rfl (R3.out.setRow #[.int .i64 5, .slice none 0 0, .slice none 0 0, .int .i64 0, .int .i64 0, .int .i64 0, .int .i64 0, .int .i64 0, .int .i64 0, .int .i64 0, .int .i64 0, .int .i64 0, .int .i64 0, .int .i64 0, .int .i64 x]) Try.underlying31 rfl command_len) rfl ?_
      rw [HPP.out]
      exact Or.inl ⟨Q2.out, .slice none 0 0, .slice none 0 0, rfl, Row.aside A3.out k6 (by have := BL.out; omega), B3.out.setRow (.inl (Nat.le_refl _)) _, World.ownsRow_nil _ _ _ _, World.ownsRow_nil _ _ _ _⟩
  have hp := HPAR.out
  rw [if_neg k1, if_neg k2, if_neg k3] at hp
  have HPP := Lib.hid hp
  clear hp
  have k1' : (k == 1) = false := by rw [beq_eq_false_iff_ne]; omega
  have k2' : (k == 2) = false := by rw [beq_eq_false_iff_ne]; omega
  have k3' : (k == 3) = false := by rw [beq_eq_false_iff_ne]; omega
  have k4' : (k == 4) = false := by rw [beq_eq_false_iff_ne]; omega
  have k5' : (k == 5) = false := by rw [beq_eq_false_iff_ne]; omega
  clear k1 k2 k3
  go_upto_region 11 with fail
  obtain ⟨V3, hV3⟩ : ∃ V, w1.alloc (.cells #[.int .i64 k, .slice none 0 0, .slice none 0 0, .int .i64 0, .int .i64 0, .int .i64 0, .int .i64 0, .int .i64 0, .int .i64 0, .int .i64 0, .int .i64 0, .int .i64 0, .int .i64 0, .int .i64 0, .int .i64 0] 31) = V := ⟨_, rfl⟩
  rw [hV3] at D1 H1 R1 B1 ⊢
  have A3 := H1; have R3 := R1; have B3 := B1; have D3 := D1
  clear hV3 D1 H1 R1 B1 k1' k2' k3' k4' k5'
  go_wp2_with (first
    | (refine wpList_load_row rfl 31 _ rfl w1.heap.size rfl _ _ _ _ D3.out Try.underlying31 rfl command_len ?_)
    | (refine wpList_store_row rfl 31 _ _ rfl w.heap.size #[.int .i64 k, .slice none 0 0, .slice none 0 0, .int .i64 0, .int .i64 0, .int .i64 0, .int .i64 0, .int .i64 0, .int .i64 0, .int .i64 0, .int .i64 0, .int .i64 0, .int .i64 0, .int .i64 0, .int .i64 0] rfl rfl _ _ R3.out command_len rfl (command_one (⟨k, [], [], 0, 0, Cm.zG, 0⟩ : Cmd) none none 0 0 0 0) ?_)
    | fail)
  have k6 : But w.heap.size V3 (V3.setRow w.heap.size #[.int .i64 k, .slice none 0 0, .slice none 0 0, .int .i64 0, .int .i64 0, .int .i64 0, .int .i64 0, .int .i64 0, .int .i64 0, .int .i64 0, .int .i64 0, .int .i64 0, .int .i64 0, .int .i64 0, .int .i64 0]) := (But.refl _ _).setRow (.inr rfl) _
  refine bodyPost_ret (results_cell_row (p := 2) (by kernel_rfl) _ _ w.heap.size _ _ _ _ rfl (R3.out.setRow #[.int .i64 k, .slice none 0 0, .slice none 0 0, .int .i64 0, .int .i64 0, .int .i64 0, .int .i64 0, .int .i64 0, .int .i64 0, .int .i64 0, .int .i64 0, .int .i64 0, .int .i64 0, .int .i64 0, .int .i64 0]) Try.underlying31 rfl command_len) rfl ?_
  rw [HPP.out]
  exact Or.inl ⟨Q1.out, .slice none 0 0, .slice none 0 0, rfl, Row.aside A3.out k6 (by have := BL.out; omega), B3.out.setRow (.inl (Nat.le_refl _)) _, World.ownsRow_nil _ _ _ _, World.ownsRow_nil _ _ _ _⟩

end Go.Proofs.Ytpnfhcpapjomnaa
