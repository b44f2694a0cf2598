/- The landed reader: what it demands; a number. -/
import Derived.Test.YtpnfhcpapjomnaaPcH
import Derived.Test.YtpnfhcpapjomnaaCmdI
import Derived.Test.YtpnfhcpapjomnaaPnC
import Derived.WalkLawsBesides
namespace Go.Proofs.Ytpnfhcpapjomnaa
open Go.RowKit
set_option linter.unusedVariables false

/-- Where a reader lies, what is left for it. -/
def RAt (b : Nat) (s : ByteArray) (w : World) : Prop := Row w b #[.string s] 57
/-- A part is read, or the reading is given up. -/
def RdP (b : Nat) (w : World) (v : Value) (q : Cm.St) (e : Ending) (w' : World) : Prop :=
  (q.bad = false ∧ e = .returned v ∧ RAt b q.s w' ∧ But b w w') ∨ (q.bad = true ∧ e = .panicked [{ v := .iface 34 (.int .i64 10), recovered := false }] ∧ But b w w')

theorem RdP.ok {b : Nat} {w w' : World} {v : Value} {q : Cm.St} (h : q.bad = false) (ha : RAt b q.s w') (hb : But b w w') : RdP b w v q (.returned v) w' := .inl ⟨h, rfl, ha, hb⟩
theorem RdP.no {b : Nat} {w w' : World} {v : Value} {q : Cm.St} (h : q.bad = true) (hb : But b w w') : RdP b w v q (.panicked [{ v := .iface 34 (.int .i64 10), recovered := false }]) w' := .inr ⟨h, rfl, hb⟩

theorem demand_ok (w : World) : Calls Try.prog 32 #[.bool true] w fun e w' => e = .returned (.tuple #[]) ∧ w = w' := by
  go_enter Try.func32, Try.ntmps32
  go_wp2_with fail
  go_end0
  exact ⟨rfl, rfl⟩
theorem demand_no (w : World) : Calls Try.prog 32 #[.bool false] w fun e w' => e = .panicked [{ v := .iface 34 (.int .i64 10), recovered := false }] ∧ w = w' := by
  go_enter Try.func32, Try.ntmps32
  go_wp2_with fail
  exact ⟨rfl, rfl, rfl⟩

set_option maxHeartbeats 400000 in
theorem number_any (b : Nat) (s : ByteArray) (w : World) (h : RAt b s w) : Calls Try.prog 47 #[.pointer (some ⟨b, 0, none⟩)] w (RdP b w (.int .i64 (Cm.num ⟨s, false⟩).1) (Cm.num ⟨s, false⟩).2) := by
  have hc0 : w.cell? ⟨b, 0, none⟩ = some (.string s) := h.at_ 0
  have hf0 := h.soft 0
  have hg := fun w => Get_any s w
  have hrg := Nu.get_range s
  have hnum : Cm.num ⟨s, false⟩ = if (Nu.get s).2.2 ≠ 0 ∨ false = true then (0, ⟨s, true⟩) else (((Nu.get s).1 : Int), ⟨s.extract (Nu.get s).2.1 s.size, false⟩) := rfl
  have hcut := fun w => str_from s (Nu.get s).2.1 hrg.2.2 w
  obtain ⟨R, hR⟩ : ∃ R, Nu.get s = R := ⟨_, rfl⟩
  rw [hR] at hg hrg hnum hcut
  obtain ⟨n, k, e⟩ := R
  obtain ⟨nn, hn⟩ : ∃ x : Int, (n : Int) = x := ⟨_, rfl⟩
  obtain ⟨kk, hk⟩ : ∃ x : Int, (k : Int) = x := ⟨_, rfl⟩
  simp only [Nu.ans, hn, hk] at hg hnum hcut
  obtain ⟨⟨x, q⟩, hq⟩ : ∃ r, Cm.num ⟨s, false⟩ = r := ⟨_, rfl⟩
  rw [hq] at hnum ⊢
  have HG := Lib.hid hg; have HN := Lib.hid hnum; have HP := Lib.hid h
  clear hg hrg hnum hR h hn hk hq
  by_cases he : e = 0
  · subst he
    have hq := HN.out
    rw [if_neg (by simp)] at hq
    obtain ⟨rfl, rfl⟩ := Prod.mk.inj hq
    clear hq HN
    have E : Hid (RAt b (s.extract k s.size) (w.setCell ⟨b, 0, none⟩ (.string (s.extract k s.size))) ∧ But b w (w.setCell ⟨b, 0, none⟩ (.string (s.extract k s.size)))) := Lib.hid ⟨HP.out.set 0 _, (But.refl _ _).setCell (p := ⟨b, 0, none⟩) (.inr rfl) _⟩
    go_enter Try.func47, Try.ntmps47
    go_wp2_with fail
    refine (HG.out _).mono ?_
    rintro er w1 ⟨rfl, rfl⟩
    go_wp2_with fail
    refine (demand_ok _).mono ?_
    rintro er w1 ⟨rfl, rfl⟩
    go_wp2_with fail
    go_ret
    exact .ok rfl E.out.1 E.out.2
  · have hq := HN.out
    rw [if_pos (.inl he)] at hq
    obtain ⟨rfl, rfl⟩ := Prod.mk.inj hq
    clear hq HN
    have he' : (e == 0) = false := by simpa using he
    go_enter Try.func47, Try.ntmps47
    go_wp2_with fail
    refine (HG.out _).mono ?_
    rintro er w1 ⟨rfl, rfl⟩
    go_wp2_with fail
    refine (demand_no _).mono ?_
    rintro er w1 ⟨rfl, rfl⟩
    go_wp2_with fail
    exact ⟨rfl, .no rfl (But.refl _ _)⟩

set_option maxHeartbeats 400000 in
theorem count_any (b : Nat) (s : ByteArray) (m : Int) (w : World) (h : RAt b s w) : Calls Try.prog 57 #[.pointer (some ⟨b, 0, none⟩), .int .i64 m] w (RdP b w (.int .i64 (Cm.cnt m ⟨s, false⟩).1) (Cm.cnt m ⟨s, false⟩).2) := by
  have hn := number_any b s w h
  have hc : Cm.cnt m ⟨s, false⟩ = if (Cm.num ⟨s, false⟩).2.bad = true ∨ m < (Cm.num ⟨s, false⟩).1 then (0, ⟨(Cm.num ⟨s, false⟩).2.s, true⟩) else Cm.num ⟨s, false⟩ := rfl
  obtain ⟨⟨x, q⟩, hq⟩ : ∃ r, Cm.num ⟨s, false⟩ = r := ⟨_, rfl⟩
  obtain ⟨⟨y, q2⟩, hq2⟩ : ∃ r, Cm.cnt m ⟨s, false⟩ = r := ⟨_, rfl⟩
  rw [hq] at hn hc
  rw [hq2] at hc ⊢
  clear hq hq2 h
  simp only at hn hc ⊢
  have HN := Lib.hid hn; have HC := Lib.hid hc
  clear hn hc
  go_enter Try.func57, Try.ntmps57
  go_wp2_with fail
  refine HN.out.mono ?_
  rintro er w1 (⟨hb, rfl, a1, b1⟩ | ⟨hb, rfl, b1⟩)
  · have A1 := Lib.hid a1; have B1 := Lib.hid b1
    have hc := HC.out
    clear a1 b1 HN HC
    by_cases hle : x ≤ m
    · rw [if_neg (by rw [hb]; simp; omega)] at hc
      obtain ⟨rfl, rfl⟩ := Prod.mk.inj hc
      clear hc
      go_wp2_with fail
      refine (demand_ok _).mono ?_
      rintro er w2 ⟨rfl, rfl⟩
      go_wp2_with fail
      go_ret
      exact .ok hb A1.out B1.out
    · rw [if_pos (.inr (by omega))] at hc
      obtain ⟨rfl, rfl⟩ := Prod.mk.inj hc
      clear hc
      have hle' : decide (x ≤ m) = false := by simpa using hle
      go_wp2_with fail
      refine (demand_no _).mono ?_
      rintro er w2 ⟨rfl, rfl⟩
      go_wp2_with fail
      exact ⟨rfl, .no rfl B1.out⟩
  · have B1 := Lib.hid b1
    have hc := HC.out
    rw [if_pos (.inl hb)] at hc
    obtain ⟨rfl, rfl⟩ := Prod.mk.inj hc
    clear hc b1 HN HC
    go_wp2_with fail
    exact ⟨rfl, .no rfl B1.out⟩

set_option maxHeartbeats 400000 in
theorem vecOf_any (b : Nat) (s : ByteArray) (w : World) (h : RAt b s w) : Calls Try.prog 58 #[.pointer (some ⟨b, 0, none⟩)] w (RdP b w (.agg #[.int .i64 (Cm.vec ⟨s, false⟩).1.x, .int .i64 (Cm.vec ⟨s, false⟩).1.y, .int .i64 (Cm.vec ⟨s, false⟩).1.z]) (Cm.vec ⟨s, false⟩).2) := by
  have hv := Cm.vec_getV s
  have hk : (Nu.getV s).2.1 ≤ s.size := by
    unfold Nu.getV
    split
    · exact Nat.zero_le _
    · exact (Nu.seek_le s 3).1
  have hcut := fun w => str_from s (Nu.getV s).2.1 hk w
  have hg := fun w => GetVec_any s w
  obtain ⟨⟨v, q⟩, hq⟩ : ∃ r, Cm.vec ⟨s, false⟩ = r := ⟨_, rfl⟩
  rw [hq] at hv ⊢
  obtain ⟨⟨⟨x', y', z'⟩, k, e⟩, hR⟩ : ∃ R, Nu.getV s = R := ⟨_, rfl⟩
  rw [hR] at hg hv hcut
  clear hq hR hk
  obtain ⟨kk, hkk⟩ : ∃ x : Int, (k : Int) = x := ⟨_, rfl⟩
  obtain ⟨x, hx⟩ : ∃ x : Int, (x' : Int) = x := ⟨_, rfl⟩
  obtain ⟨y, hy⟩ : ∃ x : Int, (y' : Int) = x := ⟨_, rfl⟩
  obtain ⟨z, hz⟩ : ∃ x : Int, (z' : Int) = x := ⟨_, rfl⟩
  simp only [Nu.ansV, hkk, hx, hy, hz] at hg hv hcut ⊢
  clear hkk hx hy hz
  have hc0 : (w.alloc (.cells #[.int .i64 0, .int .i64 0, .int .i64 0] 27)).cell? ⟨b, 0, none⟩ = some (.string s) := (World.cell?_alloc_past (w := w) _ b 0 h.lt).trans (h.at_ 0)
  have hW : RAt b s (w.alloc (.cells #[.int .i64 0, .int .i64 0, .int .i64 0] 27)) := h.under ((Below.refl _ _).alloc (Nat.le_refl _) _)
  have hD := Row.new w #[.int .i64 0, .int .i64 0, .int .i64 0] 27
  have hbn : b < w.heap.size := h.lt
  have HG := Lib.hid hg; have HW := Lib.hid hW; have HD := Lib.hid hD; have HB := Lib.hid hbn
  clear hg hW hD hbn h
  rcases hv with ⟨he, hv⟩ | ⟨he, hv⟩
  · subst he
    obtain ⟨rfl, rfl⟩ := Prod.mk.inj hv
    clear hv
    go_enter Try.func58, Try.ntmps58
    go_wp2_with fail
    refine (HG.out _).mono ?_
    rintro er w1 ⟨rfl, b1⟩
    have hz1 := b1.size
    rw [World.size_alloc] at hz1
    have r1 : RAt b s (w1.alloc (.cells #[.int .i64 x, .int .i64 y, .int .i64 z] 27)) := Row.under (Row.under HW.out b1) ((Below.refl _ _).alloc (Nat.le_refl _) _)
    have d1 := (HD.out.under b1).under ((Below.refl _ _).alloc (Nat.le_refl w1.heap.size) (.cells #[.int .i64 x, .int .i64 y, .int .i64 z] 27))
    have v1 := Row.new w1 #[.int .i64 x, .int .i64 y, .int .i64 z] 27
    have g1 : But b w (w1.alloc (.cells #[.int .i64 x, .int .i64 y, .int .i64 z] 27)) := (((But.refl b w).alloc _).trans (But.of_below b1)).alloc _
    have c1 : (w1.alloc (.cells #[.int .i64 x, .int .i64 y, .int .i64 z] 27)).cell? ⟨b, 0, none⟩ = some (.string s) := r1.at_ 0
    have f1 := r1.soft 0
    have k2 : But b (w1.alloc (.cells #[.int .i64 x, .int .i64 y, .int .i64 z] 27)) ((w1.alloc (.cells #[.int .i64 x, .int .i64 y, .int .i64 z] 27)).setCell ⟨b, 0, none⟩ (.string (s.extract k s.size))) := (But.refl _ _).setCell (p := ⟨b, 0, none⟩) (.inr rfl) _
    have R2 := Lib.hid (show RAt b (s.extract k s.size) ((w1.alloc (.cells #[.int .i64 x, .int .i64 y, .int .i64 z] 27)).setCell ⟨b, 0, none⟩ (.string (s.extract k s.size))) from Row.set r1 0 _)
    have D2 := Lib.hid (d1.keep k2 (by have := HB.out; omega))
    have V2 := Lib.hid (v1.keep k2 (by have := HB.out; omega))
    have G2 := Lib.hid (g1.trans k2)
    clear b1 r1 d1 v1 g1 k2 hc0 hz1
    go_wp2_with fail
    refine (demand_ok _).mono ?_
    rintro er w2 ⟨rfl, rfl⟩
    go_wp2_with (first
      | (refine wpList_load_row rfl 27 _ rfl w1.heap.size rfl _ _ _ _ V2.out Try.underlying27 rfl vec_len ?_)
      | (refine wpList_store_row rfl 27 _ _ rfl w.heap.size #[.int .i64 x, .int .i64 y, .int .i64 z] rfl rfl _ _ D2.out vec_len rfl (vec_one x y z) ?_)
      | fail)
    refine bodyPost_ret (results_cell_row (p := 2) (by kernel_rfl) _ _ w.heap.size _ _ _ _ rfl (D2.out.setRow #[.int .i64 x, .int .i64 y, .int .i64 z]) Try.underlying27 rfl vec_len) rfl ?_
    exact .ok rfl (show Row _ _ _ _ from (setRow_other _ w.heap.size b _ (by have := HB.out; omega)).trans R2.out) (G2.out.setRow (.inl (Nat.le_refl _)) _)
  · have he' : (e == 0) = false := by simpa using he
    go_enter Try.func58, Try.ntmps58
    go_wp2_with fail
    refine (HG.out _).mono ?_
    rintro er w1 ⟨rfl, b1⟩
    have G1 := Lib.hid ((((But.refl b w).alloc _).trans (But.of_below b1)).alloc (.cells #[.int .i64 x, .int .i64 y, .int .i64 z] 27))
    clear b1 hc0
    go_wp2_with fail
    refine (demand_no _).mono ?_
    rintro er w2 ⟨rfl, rfl⟩
    go_wp2_with fail
    exact ⟨rfl, .no hv G1.out⟩

theorem number_at (b : Nat) (p : Cm.St) (w : World) (hb : p.bad = false) (h : RAt b p.s w) : Calls Try.prog 47 #[.pointer (some ⟨b, 0, none⟩)] w (RdP b w (.int .i64 (Cm.num p).1) (Cm.num p).2) := by
  obtain ⟨s, bad⟩ := p
  simp only at hb h
  subst hb
  exact number_any b s w h
theorem vec_at (b : Nat) (p : Cm.St) (w : World) (hb : p.bad = false) (h : RAt b p.s w) : Calls Try.prog 58 #[.pointer (some ⟨b, 0, none⟩)] w (RdP b w (.agg #[.int .i64 (Cm.vec p).1.x, .int .i64 (Cm.vec p).1.y, .int .i64 (Cm.vec p).1.z]) (Cm.vec p).2) := by
  obtain ⟨s, bad⟩ := p
  simp only at hb h
  subst hb
  exact vecOf_any b s w h
theorem count_at (b : Nat) (p : Cm.St) (m : Int) (w : World) (hb : p.bad = false) (h : RAt b p.s w) : Calls Try.prog 57 #[.pointer (some ⟨b, 0, none⟩), .int .i64 m] w (RdP b w (.int .i64 (Cm.cnt m p).1) (Cm.cnt m p).2) := by
  obtain ⟨s, bad⟩ := p
  simp only at hb h
  subst hb
  exact count_any b s m w h
theorem Cm.num_bad' {p q : Cm.St} {x : Int} (e : Cm.num p = (x, q)) (h : p.bad = true) : q.bad = true := by have := Cm.num_bad h; rwa [e] at this
theorem Cm.vec_bad' {p q : Cm.St} {x : V3} (e : Cm.vec p = (x, q)) (h : p.bad = true) : q.bad = true := by have := Cm.vec_bad h; rwa [e] at this
theorem Cm.cnt_bad' {m : Int} {p q : Cm.St} {x : Int} (e : Cm.cnt m p = (x, q)) (h : p.bad = true) : q.bad = true := by have := Cm.cnt_bad (most := m) h; rwa [e] at this

set_option maxHeartbeats 1000000 in
set_option maxRecDepth 4000 in
theorem gangOf_at (b : Nat) (p : Cm.St) (w : World) (hb : p.bad = false) (h : RAt b p.s w) : Calls Try.prog 49 #[.pointer (some ⟨b, 0, none⟩)] w (RdP b w (.agg (Cm.gang p).1.c) (Cm.gang p).2) := by
  have c0 := fun w => number_at b p w
  obtain ⟨⟨x1, p1⟩, e0⟩ : ∃ r, Cm.num p = r := ⟨_, rfl⟩
  rw [e0] at c0
  have c1 := fun w => number_at b p1 w
  obtain ⟨⟨x2, p2⟩, e1⟩ : ∃ r, Cm.num p1 = r := ⟨_, rfl⟩
  rw [e1] at c1
  have c2 := fun w => number_at b p2 w
  obtain ⟨⟨x3, p3⟩, e2⟩ : ∃ r, Cm.num p2 = r := ⟨_, rfl⟩
  rw [e2] at c2
  have c3 := fun w => vec_at b p3 w
  obtain ⟨⟨⟨x4, x5, x6⟩, p4⟩, e3⟩ : ∃ r, Cm.vec p3 = r := ⟨_, rfl⟩
  rw [e3] at c3
  have c4 := fun w => number_at b p4 w
  obtain ⟨⟨x7, p5⟩, e4⟩ : ∃ r, Cm.num p4 = r := ⟨_, rfl⟩
  rw [e4] at c4
  have c5 := fun w => number_at b p5 w
  obtain ⟨⟨x8, p6⟩, e5⟩ : ∃ r, Cm.num p5 = r := ⟨_, rfl⟩
  rw [e5] at c5
  have c6 := fun w => number_at b p6 w
  obtain ⟨⟨x9, p7⟩, e6⟩ : ∃ r, Cm.num p6 = r := ⟨_, rfl⟩
  rw [e6] at c6
  have hg : Cm.gang p = (⟨x1, x2, x3, ⟨x4, x5, x6⟩, x7, x8, x9⟩, p7) := by simp only [Cm.gang, e0, e1, e2, e3, e4, e5, e6]
  rw [hg]
  simp only [Gg.c] at c0 c1 c2 c3 c4 c5 c6 ⊢
  have C0 := Lib.hid c0; have E0 := Lib.hid e0
  have C1 := Lib.hid c1; have E1 := Lib.hid e1
  have C2 := Lib.hid c2; have E2 := Lib.hid e2
  have C3 := Lib.hid c3; have E3 := Lib.hid e3
  have C4 := Lib.hid c4; have E4 := Lib.hid e4
  have C5 := Lib.hid c5; have E5 := Lib.hid e5
  have C6 := Lib.hid c6; have E6 := Lib.hid e6
  clear c0 c1 c2 c3 c4 c5 c6 e0 e1 e2 e3 e4 e5 e6 hg
  have H0 := Lib.hid (show RAt b p.s (w.alloc (.cells #[.int .i64 0, .int .i64 0, .int .i64 0, .int .i64 0, .int .i64 0, .int .i64 0, .int .i64 0, .int .i64 0, .int .i64 0] 29)) from h.under ((Below.refl _ _).alloc (Nat.le_refl _) _))
  have B0 := Lib.hid ((But.refl b w).alloc (.cells #[.int .i64 0, .int .i64 0, .int .i64 0, .int .i64 0, .int .i64 0, .int .i64 0, .int .i64 0, .int .i64 0, .int .i64 0] 29))
  have D0 := Lib.hid (Row.new w #[.int .i64 0, .int .i64 0, .int .i64 0, .int .i64 0, .int .i64 0, .int .i64 0, .int .i64 0, .int .i64 0, .int .i64 0] 29)
  have hn : b < w.heap.size := h.lt
  have HN := Lib.hid hn; have Q0 := Lib.hid hb
  clear h hn hb
  go_enter Try.func49, Try.ntmps49
  go_wp2_with fail
  refine (C0.out _ Q0.out H0.out).mono ?_
  rintro er w1 (⟨hq, rfl, h1, b1⟩ | ⟨hq, rfl, b1⟩)
  case inr =>
    have G := Lib.hid (RdP.no (v := .agg #[.int .i64 x1, .int .i64 x2, .int .i64 x3, .int .i64 x4, .int .i64 x5, .int .i64 x6, .int .i64 x7, .int .i64 x8, .int .i64 x9]) (Cm.num_bad' E6.out (Cm.num_bad' E5.out (Cm.num_bad' E4.out (Cm.vec_bad' E3.out (Cm.num_bad' E2.out (Cm.num_bad' E1.out (hq))))))) (B0.out.trans b1))
    clear b1 hq
    go_wp2_with fail
    exact ⟨rfl, G.out⟩
  have H1 := Lib.hid h1; have B1 := Lib.hid (B0.out.trans b1); have D1 := Lib.hid (D0.out.keep b1 (by have := HN.out; omega)); have Q1 := Lib.hid hq
  clear h1 b1 hq
  go_wp2_with fail
  refine (C1.out _ Q1.out H1.out).mono ?_
  rintro er w2 (⟨hq, rfl, h1, b1⟩ | ⟨hq, rfl, b1⟩)
  case inr =>
    have G := Lib.hid (RdP.no (v := .agg #[.int .i64 x1, .int .i64 x2, .int .i64 x3, .int .i64 x4, .int .i64 x5, .int .i64 x6, .int .i64 x7, .int .i64 x8, .int .i64 x9]) (Cm.num_bad' E6.out (Cm.num_bad' E5.out (Cm.num_bad' E4.out (Cm.vec_bad' E3.out (Cm.num_bad' E2.out (hq)))))) (B1.out.trans b1))
    clear b1 hq
    go_wp2_with fail
    exact ⟨rfl, G.out⟩
  have H2 := Lib.hid h1; have B2 := Lib.hid (B1.out.trans b1); have D2 := Lib.hid (D1.out.keep b1 (by have := HN.out; omega)); have Q2 := Lib.hid hq
  clear h1 b1 hq
  go_wp2_with fail
  refine (C2.out _ Q2.out H2.out).mono ?_
  rintro er w3 (⟨hq, rfl, h1, b1⟩ | ⟨hq, rfl, b1⟩)
  case inr =>
    have G := Lib.hid (RdP.no (v := .agg #[.int .i64 x1, .int .i64 x2, .int .i64 x3, .int .i64 x4, .int .i64 x5, .int .i64 x6, .int .i64 x7, .int .i64 x8, .int .i64 x9]) (Cm.num_bad' E6.out (Cm.num_bad' E5.out (Cm.num_bad' E4.out (Cm.vec_bad' E3.out (hq))))) (B2.out.trans b1))
    clear b1 hq
    go_wp2_with fail
    exact ⟨rfl, G.out⟩
  have H3 := Lib.hid h1; have B3 := Lib.hid (B2.out.trans b1); have D3 := Lib.hid (D2.out.keep b1 (by have := HN.out; omega)); have Q3 := Lib.hid hq
  clear h1 b1 hq
  go_wp2_with fail
  refine (C3.out _ Q3.out H3.out).mono ?_
  rintro er w4 (⟨hq, rfl, h1, b1⟩ | ⟨hq, rfl, b1⟩)
  case inr =>
    have G := Lib.hid (RdP.no (v := .agg #[.int .i64 x1, .int .i64 x2, .int .i64 x3, .int .i64 x4, .int .i64 x5, .int .i64 x6, .int .i64 x7, .int .i64 x8, .int .i64 x9]) (Cm.num_bad' E6.out (Cm.num_bad' E5.out (Cm.num_bad' E4.out (hq)))) (B3.out.trans b1))
    clear b1 hq
    go_wp2_with fail
    exact ⟨rfl, G.out⟩
  have H4 := Lib.hid h1; have B4 := Lib.hid (B3.out.trans b1); have D4 := Lib.hid (D3.out.keep b1 (by have := HN.out; omega)); have Q4 := Lib.hid hq
  clear h1 b1 hq
  go_wp2_with fail
  refine (C4.out _ Q4.out H4.out).mono ?_
  rintro er w5 (⟨hq, rfl, h1, b1⟩ | ⟨hq, rfl, b1⟩)
  case inr =>
    have G := Lib.hid (RdP.no (v := .agg #[.int .i64 x1, .int .i64 x2, .int .i64 x3, .int .i64 x4, .int .i64 x5, .int .i64 x6, .int .i64 x7, .int .i64 x8, .int .i64 x9]) (Cm.num_bad' E6.out (Cm.num_bad' E5.out (hq))) (B4.out.trans b1))
    clear b1 hq
    go_wp2_with fail
    exact ⟨rfl, G.out⟩
  have H5 := Lib.hid h1; have B5 := Lib.hid (B4.out.trans b1); have D5 := Lib.hid (D4.out.keep b1 (by have := HN.out; omega)); have Q5 := Lib.hid hq
  clear h1 b1 hq
  go_wp2_with fail
  refine (C5.out _ Q5.out H5.out).mono ?_
  rintro er w6 (⟨hq, rfl, h1, b1⟩ | ⟨hq, rfl, b1⟩)
  case inr =>
    have G := Lib.hid (RdP.no (v := .agg #[.int .i64 x1, .int .i64 x2, .int .i64 x3, .int .i64 x4, .int .i64 x5, .int .i64 x6, .int .i64 x7, .int .i64 x8, .int .i64 x9]) (Cm.num_bad' E6.out (hq)) (B5.out.trans b1))
    clear b1 hq
    go_wp2_with fail
    exact ⟨rfl, G.out⟩
  have H6 := Lib.hid h1; have B6 := Lib.hid (B5.out.trans b1); have D6 := Lib.hid (D5.out.keep b1 (by have := HN.out; omega)); have Q6 := Lib.hid hq
  clear h1 b1 hq
  go_wp2_with fail
  refine (C6.out _ Q6.out H6.out).mono ?_
  rintro er w7 (⟨hq, rfl, h1, b1⟩ | ⟨hq, rfl, b1⟩)
  case inr =>
    have G := Lib.hid (RdP.no (v := .agg #[.int .i64 x1, .int .i64 x2, .int .i64 x3, .int .i64 x4, .int .i64 x5, .int .i64 x6, .int .i64 x7, .int .i64 x8, .int .i64 x9]) (hq) (B6.out.trans b1))
    clear b1 hq
    go_wp2_with fail
    exact ⟨rfl, G.out⟩
  have H7 := Lib.hid h1; have B7 := Lib.hid (B6.out.trans b1); have D7 := Lib.hid (D6.out.keep b1 (by have := HN.out; omega)); have Q7 := Lib.hid hq
  clear h1 b1 hq
  go_wp2_with (first | (refine wpList_store_row rfl 29 _ _ rfl w.heap.size #[.int .i64 x1, .int .i64 x2, .int .i64 x3, .int .i64 x4, .int .i64 x5, .int .i64 x6, .int .i64 x7, .int .i64 x8, .int .i64 x9] rfl rfl _ _ D7.out gang_len rfl (Gg.one x1 x2 x3 x4 x5 x6 x7 x8 x9) ?_) | fail)
  refine bodyPost_ret (results_cell_row (p := 2) (by kernel_rfl) _ _ w.heap.size _ _ _ _ rfl (D7.out.setRow #[.int .i64 x1, .int .i64 x2, .int .i64 x3, .int .i64 x4, .int .i64 x5, .int .i64 x6, .int .i64 x7, .int .i64 x8, .int .i64 x9]) Try.underlying29 rfl gang_len) rfl ?_
  exact .ok Q7.out (show Row _ _ _ _ from (setRow_other w7 w.heap.size b _ (by have := HN.out; omega)).trans H7.out) (B7.out.setRow (.inl (Nat.le_refl _)) _)

end Go.Proofs.Ytpnfhcpapjomnaa
