/- Bytes that are read: the plain answer's Gang. -/
import Derived.Test.YtpnfhcpapjomnaaCmdG
namespace Go.Proofs.Ytpnfhcpapjomnaa
open Go.RowKit
set_option linter.unusedVariables false

theorem Row.set3 {w : World} {g : Nat} {cs : Array Value} {t : TypeId} (h : Row w g cs t) (o : Nat) (a b c : Value) : Row (w.setCells g o [a, b, c]) g (((cs.setIfInBounds o a).setIfInBounds (o + 1) b).setIfInBounds (o + 1 + 1) c) t :=
  ((h.set o a).set (o + 1) b).set (o + 1 + 1) c
theorem Row.there {w : World} {g : Nat} {cs : Array Value} {t : TypeId} (h : Row w g cs t) (o n : Nat) (hn : o + n ≤ cs.size) : w.there g o n := fun j hj => by
  rw [h.at_, h.soft]
  refine ⟨?_, rfl⟩
  rw [Array.getElem?_eq_getElem (by omega)]
  rfl
theorem But.set3 {b : Nat} {u w : World} (h : But b u w) {g : Nat} (hp : u.heap.size ≤ g ∨ g = b) (o : Nat) (x y z : Value) : But b u (w.setCells g o [x, y, z]) :=
  ((h.setCell (p := ⟨g, o, none⟩) hp x).setCell (p := ⟨g, o + 1, none⟩) hp y).setCell (p := ⟨g, o + 1 + 1, none⟩) hp z
theorem gang_len : (Try.prog.info? 29).map (·.size) = some 9 := by kernel_rfl
theorem Gg.one (a b c d e f g h i : Int) : (#[Value.int .i64 a, .int .i64 b, .int .i64 c, .int .i64 d, .int .i64 e, .int .i64 f, .int .i64 g, .int .i64 h, .int .i64 i].all (·.oneCell')) = true := by simp [Value.oneCell']
/-- A block of one's own stands where another one is written. -/
theorem Row.aside {w w' : World} {b g : Nat} {cs : Array Value} {t : TypeId} (h : Row w g cs t) (k : But b w w') (hb : b ≠ g) : Row w' g cs t := h.keep k (Ne.symm hb)

set_option maxHeartbeats 1000000 in
set_option maxRecDepth 4000 in
theorem rGangOf_any (b : Nat) (p : Cm.St) (w : World) (h : PAt b p w) : Calls Try.prog 35 #[.pointer (some ⟨b, 0, none⟩)] w fun e w' => e = .returned (.agg (Cm.gang p).1.c) ∧ PAt b (Cm.gang p).2 w' ∧ But b w w' := by
  have hv : Cm.gang p = (⟨(Cm.num p).1, (Cm.num (Cm.num p).2).1, (Cm.num (Cm.num (Cm.num p).2).2).1, (Cm.vec (Cm.num (Cm.num (Cm.num p).2).2).2).1, (Cm.num (Cm.vec (Cm.num (Cm.num (Cm.num p).2).2).2).2).1, (Cm.num (Cm.num (Cm.vec (Cm.num (Cm.num (Cm.num p).2).2).2).2).2).1, (Cm.num (Cm.num (Cm.num (Cm.vec (Cm.num (Cm.num (Cm.num p).2).2).2).2).2).2).1⟩, (Cm.num (Cm.num (Cm.num (Cm.vec (Cm.num (Cm.num (Cm.num p).2).2).2).2).2).2).2) := rfl
  rw [hv]
  obtain ⟨⟨a1, p1⟩, e1⟩ : ∃ r, Cm.num p = r := ⟨_, rfl⟩
  rw [e1]
  simp only
  obtain ⟨⟨a2, p2⟩, e2⟩ : ∃ r, Cm.num p1 = r := ⟨_, rfl⟩
  rw [e2]
  simp only
  obtain ⟨⟨a3, p3⟩, e3⟩ : ∃ r, Cm.num p2 = r := ⟨_, rfl⟩
  rw [e3]
  simp only
  obtain ⟨⟨⟨x, y, z⟩, p4⟩, e4⟩ : ∃ r, Cm.vec p3 = r := ⟨_, rfl⟩
  rw [e4]
  simp only
  obtain ⟨⟨a5, p5⟩, e5⟩ : ∃ r, Cm.num p4 = r := ⟨_, rfl⟩
  rw [e5]
  simp only
  obtain ⟨⟨a6, p6⟩, e6⟩ : ∃ r, Cm.num p5 = r := ⟨_, rfl⟩
  rw [e6]
  simp only
  obtain ⟨⟨a7, p7⟩, e7⟩ : ∃ r, Cm.num p6 = r := ⟨_, rfl⟩
  rw [e7]
  simp only [Gg.c]
  have c1 := fun w h => rNum_any b p w h
  have c2 := fun w h => rNum_any b p1 w h
  have c3 := fun w h => rNum_any b p2 w h
  have c4 := fun w h => rVecOf_any b p3 w h
  have c5 := fun w h => rNum_any b p4 w h
  have c6 := fun w h => rNum_any b p5 w h
  have c7 := fun w h => rNum_any b p6 w h
  rw [e1] at c1; rw [e2] at c2; rw [e3] at c3; rw [e4] at c4; rw [e5] at c5; rw [e6] at c6; rw [e7] at c7
  have C1 := Lib.hid c1; have C2 := Lib.hid c2; have C3 := Lib.hid c3; have C4 := Lib.hid c4; have C5 := Lib.hid c5; have C6 := Lib.hid c6; have C7 := Lib.hid c7; have HP := Lib.hid h
  clear c1 c2 c3 c4 c5 c6 c7 e1 e2 e3 e4 e5 e6 e7 hv h
  have hW : PAt b p (w.alloc (.cells #[.int .i64 0, .int .i64 0, .int .i64 0, .int .i64 0, .int .i64 0, .int .i64 0, .int .i64 0, .int .i64 0, .int .i64 0] 29)) := HP.out.keep (b := w.heap.size) (But.of_below ((Below.refl _ _).alloc (Nat.le_refl _) _)) (by have := HP.out.lt; omega)
  have hD := Row.new w #[.int .i64 0, .int .i64 0, .int .i64 0, .int .i64 0, .int .i64 0, .int .i64 0, .int .i64 0, .int .i64 0, .int .i64 0] 29
  have hb : w.heap.size ≠ b := by have := HP.out.lt; omega
  have HW := Lib.hid hW; have HD := Lib.hid hD; have HB := Lib.hid hb
  clear hW hD hb
  go_enter Try.func35, Try.ntmps35
  go_wp2_with fail
  refine (C1.out _ HW.out).mono ?_
  rintro er w1 ⟨rfl, h1, b1⟩
  have H1 := Lib.hid h1; have B1 := Lib.hid (((But.refl b w).alloc _).trans b1); have D1 := Lib.hid (HD.out.keep b1 HB.out)
  clear h1 b1
  go_wp2_with fail
  refine (C2.out _ H1.out).mono ?_
  rintro er w2 ⟨rfl, h2, b2⟩
  have H2 := Lib.hid h2; have B2 := Lib.hid (B1.out.trans b2); have D2 := Lib.hid (D1.out.keep b2 HB.out)
  clear h2 b2
  go_wp2_with fail
  refine (C3.out _ H2.out).mono ?_
  rintro er w3 ⟨rfl, h3, b3⟩
  have b3' := B2.out.trans b3
  have d3 := D2.out.keep b3 HB.out
  have n3 : w3.heap.size ≠ b := by have := Row.lt h3; omega
  have g3 : w3.heap.size ≠ w.heap.size := by have := Row.lt d3; omega
  have u3 : w.heap.size ≤ w3.heap.size := b3'.size
  have H3 := Lib.hid (show PAt b p3 (w3.alloc (.cells #[.int .i64 a1, .int .i64 a2, .int .i64 a3, .int .i64 0, .int .i64 0, .int .i64 0, .int .i64 0, .int .i64 0, .int .i64 0] 29)) from Row.keep (b := w3.heap.size) h3 (But.of_below ((Below.refl _ _).alloc (Nat.le_refl _) _)) (Ne.symm n3))
  have B3 := Lib.hid (b3'.alloc (.cells #[.int .i64 a1, .int .i64 a2, .int .i64 a3, .int .i64 0, .int .i64 0, .int .i64 0, .int .i64 0, .int .i64 0, .int .i64 0] 29))
  have D3 := Lib.hid (Row.keep (b := w3.heap.size) d3 (But.of_below ((Below.refl _ _).alloc (Nat.le_refl _) (.cells #[.int .i64 a1, .int .i64 a2, .int .i64 a3, .int .i64 0, .int .i64 0, .int .i64 0, .int .i64 0, .int .i64 0, .int .i64 0] 29))) (Ne.symm g3))
  have E3 := Lib.hid (Row.new w3 #[.int .i64 a1, .int .i64 a2, .int .i64 a3, .int .i64 0, .int .i64 0, .int .i64 0, .int .i64 0, .int .i64 0, .int .i64 0] 29)
  have N3 := Lib.hid (And.intro n3 (And.intro g3 u3))
  clear h3 b3 b3' d3 n3 g3 u3
  go_wp2_with fail
  refine (C4.out _ H3.out).mono ?_
  rintro er w4 ⟨rfl, h4, b4⟩
  have e4 := E3.out.keep b4 N3.out.1
  have k4 := (But.refl w3.heap.size w4).set3 (g := w3.heap.size) (.inr rfl) 3 (.int .i64 x) (.int .i64 y) (.int .i64 z)
  have H4 := Lib.hid (show PAt b p4 _ from Row.aside h4 k4 N3.out.1)
  have D4 := Lib.hid ((D3.out.keep b4 HB.out).aside k4 N3.out.2.1)
  have B4 := Lib.hid ((B3.out.trans b4).set3 (g := w3.heap.size) (.inl N3.out.2.2) 3 (.int .i64 x) (.int .i64 y) (.int .i64 z))
  have E4 := Lib.hid (show Row _ _ #[.int .i64 a1, .int .i64 a2, .int .i64 a3, .int .i64 x, .int .i64 y, .int .i64 z, .int .i64 0, .int .i64 0, .int .i64 0] _ from e4.set3 3 (.int .i64 x) (.int .i64 y) (.int .i64 z))
  have T4 := Lib.hid (e4.there 3 3 (by simp))
  clear h4 b4 e4 k4
  obtain ⟨W4, hW4⟩ : ∃ V, w4.setCells w3.heap.size 3 [.int .i64 x, .int .i64 y, .int .i64 z] = V := ⟨_, rfl⟩
  rw [hW4] at H4 D4 B4 E4
  have HW4 := Lib.hid hW4
  clear hW4
  go_wp2_with (first | (refine wpList_store_mid rfl 27 _ _ rfl w3.heap.size 3 #[.int .i64 x, .int .i64 y, .int .i64 z] rfl rfl T4.out vec_len (one_cells x y z) ?_; rw [show (#[Value.int .i64 x, .int .i64 y, .int .i64 z] : Array Value).toList = [.int .i64 x, .int .i64 y, .int .i64 z] from rfl, HW4.out]) | fail)
  refine (C5.out _ H4.out).mono ?_
  rintro er w5 ⟨rfl, h5, b5⟩
  have H5 := Lib.hid h5; have B5 := Lib.hid (B4.out.trans b5); have D5 := Lib.hid (D4.out.keep b5 HB.out); have E5 := Lib.hid (E4.out.keep b5 N3.out.1)
  clear h5 b5
  go_wp2_with fail
  refine (C6.out _ H5.out).mono ?_
  rintro er w6 ⟨rfl, h6, b6⟩
  have H6 := Lib.hid h6; have B6 := Lib.hid (B5.out.trans b6); have D6 := Lib.hid (D5.out.keep b6 HB.out); have E6 := Lib.hid (E5.out.keep b6 N3.out.1)
  clear h6 b6
  go_wp2_with fail
  refine (C7.out _ H6.out).mono ?_
  rintro er w7 ⟨rfl, h7, b7⟩
  have e7 := E6.out.keep b7 N3.out.1
  have f6 : w7.cell? ⟨w3.heap.size, 6, none⟩ = some (.int .i64 0) := e7.at_ 6
  have f7 : w7.cell? ⟨w3.heap.size, 7, none⟩ = some (.int .i64 0) := e7.at_ 7
  have f8 : w7.cell? ⟨w3.heap.size, 8, none⟩ = some (.int .i64 0) := e7.at_ 8
  have s6 := e7.soft 6
  have s7 := e7.soft 7
  have s8 := e7.soft 8
  have k7 := (((But.refl w3.heap.size w7).setCell (p := ⟨w3.heap.size, 6, none⟩) (.inr rfl) (.int .i64 a5)).setCell (p := ⟨w3.heap.size, 7, none⟩) (.inr rfl) (.int .i64 a6)).setCell (p := ⟨w3.heap.size, 8, none⟩) (.inr rfl) (.int .i64 a7)
  have H7 := Lib.hid (show PAt b p7 _ from Row.aside h7 k7 N3.out.1)
  have D7 := Lib.hid ((D6.out.keep b7 HB.out).aside k7 N3.out.2.1)
  have B7 := Lib.hid ((((B6.out.trans b7).setCell (p := ⟨w3.heap.size, 6, none⟩) (.inl N3.out.2.2) (.int .i64 a5)).setCell (p := ⟨w3.heap.size, 7, none⟩) (.inl N3.out.2.2) (.int .i64 a6)).setCell (p := ⟨w3.heap.size, 8, none⟩) (.inl N3.out.2.2) (.int .i64 a7))
  have E7 := Lib.hid (show Row _ _ #[.int .i64 a1, .int .i64 a2, .int .i64 a3, .int .i64 x, .int .i64 y, .int .i64 z, .int .i64 a5, .int .i64 a6, .int .i64 a7] _ from ((e7.set 6 (.int .i64 a5)).set 7 (.int .i64 a6)).set 8 (.int .i64 a7))
  clear h7 b7 k7 e7
  obtain ⟨W7, hW7⟩ : ∃ V, ((w7.setCell ⟨w3.heap.size, 6, none⟩ (.int .i64 a5)).setCell ⟨w3.heap.size, 7, none⟩ (.int .i64 a6)).setCell ⟨w3.heap.size, 8, none⟩ (.int .i64 a7) = V := ⟨_, rfl⟩
  rw [hW7] at H7 D7 B7 E7
  have HW7 := Lib.hid hW7
  clear hW7
  have R7 := Lib.hid (D7.out.setRow #[.int .i64 a1, .int .i64 a2, .int .i64 a3, .int .i64 x, .int .i64 y, .int .i64 z, .int .i64 a5, .int .i64 a6, .int .i64 a7])
  go_wp2_with (first
    | (rw [HW7.out]; refine wpList_load_row rfl 29 _ rfl w3.heap.size rfl _ _ _ _ E7.out Try.underlying29 rfl gang_len ?_)
    | (refine wpList_store_row rfl 29 _ _ rfl w.heap.size #[.int .i64 a1, .int .i64 a2, .int .i64 a3, .int .i64 x, .int .i64 y, .int .i64 z, .int .i64 a5, .int .i64 a6, .int .i64 a7] rfl rfl _ _ D7.out gang_len rfl (Gg.one _ _ _ _ _ _ _ _ _) ?_)
    | fail)
  refine bodyPost_ret (results_cell_row (p := 2) (by kernel_rfl) _ _ w.heap.size _ _ _ _ rfl R7.out Try.underlying29 rfl gang_len) rfl ?_
  exact ⟨rfl, (show Row _ _ _ _ from (setRow_other W7 w.heap.size b _ (fun e => HB.out e.symm)).trans H7.out), B7.out.setRow (.inl (Nat.le_refl _)) _⟩

end Go.Proofs.Ytpnfhcpapjomnaa
