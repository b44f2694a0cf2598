/- Bytes that are read: the plain answer's configuration. -/
import Derived.Test.YtpnfhcpapjomnaaCmdI
import Derived.Deep.CutBlock
import Derived.Deep.CutRange
namespace Go.Proofs.Ytpnfhcpapjomnaa
open Go.RowKit
set_option linter.unusedVariables false

theorem Cf.one (a b : Option Addr) (l m c d : Nat) (x y : Int) : (#[Value.slice a l c, .slice b m d, .int .i64 x, .int .i64 y].all (·.oneCell')) = true := by simp [Value.oneCell']
theorem many_on {α : Type} {g : Cm.St → α × Cm.St} {n : Int} {m f : Nat} {p : Cm.St} {l : List α} (h : (m : Int) - (f + 1) < n) (hb : p.bad = false) : Cm.many g n m (f + 1) p l = Cm.many g n m f (g p).2 (l ++ [(g p).1]) := by
  rw [Cm.many, if_pos ⟨h, hb⟩]
theorem many_off {α : Type} {g : Cm.St → α × Cm.St} {n : Int} {m f : Nat} {p : Cm.St} {l : List α} (h : f = 0 ∨ n ≤ (m : Int) - f ∨ p.bad = true) : Cm.many g n m f p l = (l, p) := by
  cases f with
  | zero => rfl
  | succ f =>
    rw [Cm.many, if_neg]
    rintro ⟨h1, h2⟩
    rcases h with h | h | h
    · omega
    · omega
    · rw [h2] at h; cases h

/-- What a list of nodes is read as, so far. -/
structure NdSo (b : Nat) (w : World) (n : Int) (Q : List Nd × Cm.St) (j : Int) (l : List Nd) (p : Cm.St) (v : Value) (wr : World) : Prop where
  rest : Cm.many Cm.node n 13 (13 - j.toNat) p l = Q
  at_ : PAt b p wr
  but : But b w wr
  res : Row wr w.heap.size #[.slice none 0 0, .slice none 0 0, .int .i64 0, .int .i64 0] 25
  own : Row wr (w.heap.size + 1) #[v, .slice none 0 0, .int .i64 0, .int .i64 0] 25
  row : wr.ownsRow (w.heap.size + 2) 78 11 v l.length (cellsOf Nd.c l)
  len : (l.length : Int) = j
/-- What a list of hosts is read as, so far. -/
structure HsSo (b B : Nat) (w : World) (n : Int) (L : List Nd) (vn : Value) (Q : List Hs × Cm.St) (j : Int) (l : List Hs) (p : Cm.St) (v : Value) (wr : World) : Prop where
  rest : Cm.many Cm.host n 25 (25 - j.toNat) p l = Q
  at_ : PAt b p wr
  but : But b w wr
  res : Row wr w.heap.size #[.slice none 0 0, .slice none 0 0, .int .i64 0, .int .i64 0] 25
  own : Row wr (w.heap.size + 1) #[vn, v, .int .i64 0, .int .i64 0] 25
  row : wr.ownsRow (w.heap.size + 2) 78 11 vn L.length (cellsOf Nd.c L)
  low : ∀ k, vn.ownBlock = some k → k < B
  base : w.heap.size + 2 ≤ B ∧ B ≤ wr.heap.size
  rowh : wr.ownsRow B 81 6 v l.length (cellsOf Hs.c l)
  len : (l.length : Int) = j
structure HsAll (b B : Nat) (w : World) (L : List Nd) (vn : Value) (Q : List Hs × Cm.St) (v : Value) (wr : World) : Prop where
  at_ : PAt b Q.2 wr
  but : But b w wr
  res : Row wr w.heap.size #[.slice none 0 0, .slice none 0 0, .int .i64 0, .int .i64 0] 25
  own : Row wr (w.heap.size + 1) #[vn, v, .int .i64 0, .int .i64 0] 25
  row : wr.ownsRow (w.heap.size + 2) 78 11 vn L.length (cellsOf Nd.c L)
  low : ∀ k, vn.ownBlock = some k → k < B
  base : w.heap.size + 2 ≤ B
  rowh : wr.ownsRow B 81 6 v Q.1.length (cellsOf Hs.c Q.1)
/-- Behind the loop. -/
structure NdAll (b : Nat) (w : World) (Q : List Nd × Cm.St) (v : Value) (wr : World) : Prop where
  at_ : PAt b Q.2 wr
  but : But b w wr
  res : Row wr w.heap.size #[.slice none 0 0, .slice none 0 0, .int .i64 0, .int .i64 0] 25
  own : Row wr (w.heap.size + 1) #[v, .slice none 0 0, .int .i64 0, .int .i64 0] 25
  row : wr.ownsRow (w.heap.size + 2) 78 11 v Q.1.length (cellsOf Nd.c Q.1)

set_option maxHeartbeats 2000000 in
set_option maxRecDepth 8000 in
theorem rConfOf_any (b : Nat) (p : Cm.St) (w : World) (h : PAt b p w) : Calls Try.prog 34 #[.pointer (some ⟨b, 0, none⟩)] w fun e w' => ∃ vn vh : Value,
    e = .returned (.agg #[vn, vh, .int .i64 (Cm.conf p).1.2.2.1, .int .i64 (Cm.conf p).1.2.2.2]) ∧ PAt b (Cm.conf p).2 w' ∧ But b w w' ∧
    w'.ownsRow (w.heap.size + 2) 78 11 vn (Cm.conf p).1.1.length (cellsOf Nd.c (Cm.conf p).1.1) ∧ w'.ownsRow (w.heap.size + 2) 81 6 vh (Cm.conf p).1.2.1.length (cellsOf Hs.c (Cm.conf p).1.2.1) := by
  have c0 := fun w h => rNum_any b p w h
  have hv : Cm.conf p = (((Cm.many Cm.node (Cm.num p).1 13 13 (Cm.num p).2 []).1, (Cm.many Cm.host (Cm.num (Cm.many Cm.node (Cm.num p).1 13 13 (Cm.num p).2 []).2).1 25 25 (Cm.num (Cm.many Cm.node (Cm.num p).1 13 13 (Cm.num p).2 []).2).2 []).1, (Cm.num (Cm.many Cm.host (Cm.num (Cm.many Cm.node (Cm.num p).1 13 13 (Cm.num p).2 []).2).1 25 25 (Cm.num (Cm.many Cm.node (Cm.num p).1 13 13 (Cm.num p).2 []).2).2 []).2).1, (Cm.num (Cm.num (Cm.many Cm.host (Cm.num (Cm.many Cm.node (Cm.num p).1 13 13 (Cm.num p).2 []).2).1 25 25 (Cm.num (Cm.many Cm.node (Cm.num p).1 13 13 (Cm.num p).2 []).2).2 []).2).2).1), (Cm.num (Cm.num (Cm.many Cm.host (Cm.num (Cm.many Cm.node (Cm.num p).1 13 13 (Cm.num p).2 []).2).1 25 25 (Cm.num (Cm.many Cm.node (Cm.num p).1 13 13 (Cm.num p).2 []).2).2 []).2).2).2) := rfl
  rw [hv]
  clear hv
  obtain ⟨⟨n, p1⟩, e1⟩ : ∃ r, Cm.num p = r := ⟨_, rfl⟩
  have hn : 0 ≤ n ∧ n < 9223372036854775808 := by have := num_range p; rw [e1] at this; exact this
  rw [e1] at c0 ⊢
  simp only
  obtain ⟨Q, hQ⟩ : ∃ r, Cm.many Cm.node n 13 13 p1 [] = r := ⟨_, rfl⟩
  rw [hQ]
  have hd0 := fun w h => rNum_any b Q.2 w h
  obtain ⟨⟨m, p2⟩, e2⟩ : ∃ r, Cm.num Q.2 = r := ⟨_, rfl⟩
  have hm : 0 ≤ m ∧ m < 9223372036854775808 := by have := num_range Q.2; rw [e2] at this; exact this
  rw [e2] at hd0 ⊢
  simp only
  obtain ⟨R, hR⟩ : ∃ r, Cm.many Cm.host m 25 25 p2 [] = r := ⟨_, rfl⟩
  rw [hR]
  have hd1 := fun w h => rNum_any b R.2 w h
  have hd2 := fun w h => rNum_any b (Cm.num R.2).2 w h
  have C0 := Lib.hid c0; have HQ := Lib.hid hQ; have HR := Lib.hid hR; have HP := Lib.hid h
  have CD0 := Lib.hid hd0; have CD1 := Lib.hid hd1; have CD2 := Lib.hid hd2
  clear c0 hQ hR h hd0 hd1 hd2 e1 e2
  obtain ⟨hn0, hn1⟩ := hn
  obtain ⟨hm0, hm1⟩ := hm
  have hbl : b < w.heap.size := HP.out.lt
  have b0 : But b w ((w.alloc (.cells #[.slice none 0 0, .slice none 0 0, .int .i64 0, .int .i64 0] 25)).alloc (.cells #[.slice none 0 0, .slice none 0 0, .int .i64 0, .int .i64 0] 25)) := ((But.refl b w).alloc _).alloc _
  have r0 : Row ((w.alloc (.cells #[.slice none 0 0, .slice none 0 0, .int .i64 0, .int .i64 0] 25)).alloc (.cells #[.slice none 0 0, .slice none 0 0, .int .i64 0, .int .i64 0] 25)) w.heap.size #[.slice none 0 0, .slice none 0 0, .int .i64 0, .int .i64 0] 25 := (Row.new w #[.slice none 0 0, .slice none 0 0, .int .i64 0, .int .i64 0] _).keep (b := w.heap.size + 1) (But.of_below ((Below.refl _ _).alloc (Nat.le_refl _) _)) (by omega)
  have r1 : Row ((w.alloc (.cells #[.slice none 0 0, .slice none 0 0, .int .i64 0, .int .i64 0] 25)).alloc (.cells #[.slice none 0 0, .slice none 0 0, .int .i64 0, .int .i64 0] 25)) (w.heap.size + 1) #[.slice none 0 0, .slice none 0 0, .int .i64 0, .int .i64 0] 25 := by
    have := Row.new (w.alloc (.cells #[.slice none 0 0, .slice none 0 0, .int .i64 0, .int .i64 0] 25)) #[.slice none 0 0, .slice none 0 0, .int .i64 0, .int .i64 0] 25
    rwa [World.size_alloc] at this
  have pw : PAt b p ((w.alloc (.cells #[.slice none 0 0, .slice none 0 0, .int .i64 0, .int .i64 0] 25)).alloc (.cells #[.slice none 0 0, .slice none 0 0, .int .i64 0, .int .i64 0] 25)) := HP.out.keep (b := w.heap.size) (((But.refl _ w).alloc _).alloc _) (by omega)
  have BL := Lib.hid hbl; have B0 := Lib.hid b0; have R0 := Lib.hid r0; have R1 := Lib.hid r1; have PW := Lib.hid pw
  clear hbl b0 r0 r1 pw
  go_enter Try.func34, Try.ntmps34
  go_wp2_with fail
  refine (C0.out _ PW.out).mono ?_
  rintro er w1 ⟨rfl, h1, b1⟩
  have so0 : NdSo b w n Q 0 [] p1 (.slice none 0 0) w1 := ⟨HQ.out, h1, B0.out.trans b1, R0.out.keep b1 (by have := BL.out; omega), R1.out.keep b1 (by have := BL.out; omega), World.ownsRow_nil _ _ _ _, rfl⟩
  have S0 := Lib.hid so0
  clear so0 h1 b1
  go_upto_block 0 with fail
  go_cut [5, 6] from 11 to 47 (fun i x wx => ∃ v, NdAll b w Q v wx)
  case first =>
    go_wp2_with fail
    go_loopw [5] (fun i wr => ∃ (j : Int) (l : List Nd) (q : Cm.St) (v : Value), i = .int .i64 j ∧ 0 ≤ j ∧ j ≤ 13 ∧ Hid (NdSo b w n Q j l q v wr)) (fun i _ => 13 - (intOf i).toNat)
    case atStart => exact ⟨0, [], p1, _, rfl, by omega, by omega, S0.out⟩
    case round =>
      obtain ⟨j, l, ⟨s, bad⟩, v, rfl, hj0, hj13, hd⟩ := hrel
      have hbad : wr.cell? ⟨b, 1, none⟩ = some (.bool bad) := hd.out.at_.at_ 1
      by_cases hn' : j < n
      · cases bad
        · by_cases h12 : j ≤ 12
          · obtain ⟨q0, hq0⟩ : ∃ q : Cm.St, (⟨s, false⟩ : Cm.St) = q := ⟨_, rfl⟩
            have hqb : q0.bad = false := by rw [← hq0]
            rw [hq0] at hd
            clear hq0
            have c1 := fun w h => rNum_any b q0 w h
            obtain ⟨⟨a1, q1⟩, e1⟩ : ∃ r, Cm.num q0 = r := ⟨_, rfl⟩
            have r1 := num_range q0
            rw [e1] at c1 r1
            have c2 := fun w h => rNum_any b q1 w h
            obtain ⟨⟨a2, q2⟩, e2⟩ : ∃ r, Cm.num q1 = r := ⟨_, rfl⟩
            rw [e2] at c2
            have c3 := fun w h => rVecOf_any b q2 w h
            obtain ⟨⟨⟨x0, x1, x2⟩, q3⟩, e3⟩ : ∃ r, Cm.vec q2 = r := ⟨_, rfl⟩
            rw [e3] at c3
            have c4 := fun w h => rVecOf_any b q3 w h
            obtain ⟨⟨⟨y0, y1, y2⟩, q4⟩, e4⟩ : ∃ r, Cm.vec q3 = r := ⟨_, rfl⟩
            rw [e4] at c4
            have c5 := fun w h => rVecOf_any b q4 w h
            obtain ⟨⟨⟨z0, z1, z2⟩, q5⟩, e5⟩ : ∃ r, Cm.vec q4 = r := ⟨_, rfl⟩
            rw [e5] at c5
            have en : Cm.node q0 = ((⟨a1 - 1, a2, ⟨x0, x1, x2⟩, ⟨y0, y1, y2⟩, ⟨z0, z1, z2⟩⟩ : Nd), q5) := by simp only [Cm.node, e1, e2, e3, e4, e5]
            simp only at c1 c2 c3 c4 c5 r1
            have hrest := hd.out.rest
            rw [show 13 - j.toNat = (13 - (j + 1).toNat) + 1 by omega, many_on (by omega) hqb, en] at hrest
            have hlen := hd.out.len
            have C1 := Lib.hid c1; have C2 := Lib.hid c2; have C3 := Lib.hid c3; have C4 := Lib.hid c4; have C5 := Lib.hid c5
            have HR2 := Lib.hid hrest; have HLEN := Lib.hid hlen
            have r10 := r1.1; have r11 := r1.2
            clear c1 c2 c3 c4 c5 e1 e2 e3 e4 e5 en hrest hlen r1 hqb
            go_wp2_with fail
            refine (C1.out _ hd.out.at_).mono ?_
            rintro er w1 ⟨rfl, h1, b1⟩
            have H1 := Lib.hid h1; have B1 := Lib.hid b1; clear h1 b1 hbad
            go_wp2_with fail
            refine (C2.out _ H1.out).mono ?_
            rintro er w2 ⟨rfl, h2, b2⟩
            have b2' := B1.out.trans b2
            have lD : wr.heap.size ≤ w2.heap.size := b2'.size
            have lw : w.heap.size + 1 < wr.heap.size := hd.out.own.lt
            have nD : w2.heap.size ≠ b ∧ w2.heap.size ≠ w.heap.size ∧ w2.heap.size ≠ w.heap.size + 1 ∧ w.heap.size ≤ w2.heap.size := by have := BL.out; omega
            have ND := Lib.hid nD; have LD := Lib.hid lD
            have H2 := Lib.hid (show PAt b q2 (w2.alloc (.cells #[.int .i64 (a1 - 1), .int .i64 a2, .int .i64 0, .int .i64 0, .int .i64 0, .int .i64 0, .int .i64 0, .int .i64 0, .int .i64 0, .int .i64 0, .int .i64 0] 78)) from Row.keep (b := w2.heap.size) h2 (But.of_below ((Below.refl _ _).alloc (Nat.le_refl _) _)) (Ne.symm nD.1))
            have B2 := Lib.hid (b2'.alloc (.cells #[.int .i64 (a1 - 1), .int .i64 a2, .int .i64 0, .int .i64 0, .int .i64 0, .int .i64 0, .int .i64 0, .int .i64 0, .int .i64 0, .int .i64 0, .int .i64 0] 78))
            have E2 := Lib.hid (Row.new w2 #[.int .i64 (a1 - 1), .int .i64 a2, .int .i64 0, .int .i64 0, .int .i64 0, .int .i64 0, .int .i64 0, .int .i64 0, .int .i64 0, .int .i64 0, .int .i64 0] 78)
            clear h2 b2 b2' nD lD lw
            go_wp2_with fail
            refine (C3.out _ H2.out).mono ?_
            rintro er w3 ⟨rfl, h3, b3⟩
            have H3 := Lib.hid h3; have B3 := Lib.hid (B2.out.trans b3); have E3 := Lib.hid (E2.out.keep b3 ND.out.1)
            clear h3 b3
            go_wp2_with fail
            refine (C4.out _ H3.out).mono ?_
            rintro er w4 ⟨rfl, h4, b4⟩
            have H4 := Lib.hid h4; have B4 := Lib.hid (B3.out.trans b4); have E4 := Lib.hid (E3.out.keep b4 ND.out.1)
            clear h4 b4
            go_wp2_with fail
            refine (C5.out _ H4.out).mono ?_
            rintro er w5 ⟨rfl, h5, b5⟩
            have b5' := B4.out.trans b5
            have e5 := E4.out.keep b5 ND.out.1
            have t1 := e5.there 2 3 (by simp)
            have e6 : Row _ w2.heap.size #[.int .i64 (a1 - 1), .int .i64 a2, .int .i64 x0, .int .i64 x1, .int .i64 x2, .int .i64 0, .int .i64 0, .int .i64 0, .int .i64 0, .int .i64 0, .int .i64 0] 78 := e5.set3 2 (.int .i64 x0) (.int .i64 x1) (.int .i64 x2)
            have t2 := e6.there 5 3 (by simp)
            have e7 : Row _ w2.heap.size #[.int .i64 (a1 - 1), .int .i64 a2, .int .i64 x0, .int .i64 x1, .int .i64 x2, .int .i64 y0, .int .i64 y1, .int .i64 y2, .int .i64 0, .int .i64 0, .int .i64 0] 78 := e6.set3 5 (.int .i64 y0) (.int .i64 y1) (.int .i64 y2)
            have t3 := e7.there 8 3 (by simp)
            have e8 : Row _ w2.heap.size #[.int .i64 (a1 - 1), .int .i64 a2, .int .i64 x0, .int .i64 x1, .int .i64 x2, .int .i64 y0, .int .i64 y1, .int .i64 y2, .int .i64 z0, .int .i64 z1, .int .i64 z2] 78 := e7.set3 8 (.int .i64 z0) (.int .i64 z1) (.int .i64 z2)
            have k8 := (((But.refl w2.heap.size w5).set3 (g := w2.heap.size) (.inr rfl) 2 (.int .i64 x0) (.int .i64 x1) (.int .i64 x2)).set3 (g := w2.heap.size) (.inr rfl) 5 (.int .i64 y0) (.int .i64 y1) (.int .i64 y2)).set3 (g := w2.heap.size) (.inr rfl) 8 (.int .i64 z0) (.int .i64 z1) (.int .i64 z2)
            have b8 := (((hd.out.but.trans b5').set3 (g := w2.heap.size) (.inl ND.out.2.2.2) 2 (.int .i64 x0) (.int .i64 x1) (.int .i64 x2)).set3 (g := w2.heap.size) (.inl ND.out.2.2.2) 5 (.int .i64 y0) (.int .i64 y1) (.int .i64 y2)).set3 (g := w2.heap.size) (.inl ND.out.2.2.2) 8 (.int .i64 z0) (.int .i64 z1) (.int .i64 z2)
            have vD : v.ownBlock ≠ some w2.heap.size := fun e => by have := (hd.out.row.lt _ e).2; have := LD.out; omega
            have a8 := Row.aside h5 k8 ND.out.1
            have s8 := (hd.out.res.keep b5' (by have := BL.out; omega)).aside k8 ND.out.2.1
            have o8 := (hd.out.own.keep b5' (by have := BL.out; omega)).aside k8 ND.out.2.2.1
            have w8 := own_keep (own_keep hd.out.row b5' (own_low hd.out.row (by have := BL.out; omega))) k8 vD
            obtain ⟨V1, hV1⟩ : ∃ V, w5.setCells w2.heap.size 2 [.int .i64 x0, .int .i64 x1, .int .i64 x2] = V := ⟨_, rfl⟩
            rw [hV1] at t2 t3 e6 e7 e8 k8 b8 a8 s8 o8 w8
            obtain ⟨V2, hV2⟩ : ∃ V, V1.setCells w2.heap.size 5 [.int .i64 y0, .int .i64 y1, .int .i64 y2] = V := ⟨_, rfl⟩
            rw [hV2] at t3 e7 e8 k8 b8 a8 s8 o8 w8
            obtain ⟨V3, hV3⟩ : ∃ V, V2.setCells w2.heap.size 8 [.int .i64 z0, .int .i64 z1, .int .i64 z2] = V := ⟨_, rfl⟩
            rw [hV3] at e8 k8 b8 a8 s8 o8 w8
            have e8' : Row V3 w2.heap.size #[.int .i64 (a1 - 1), .int .i64 a2, .int .i64 x0, .int .i64 x1, .int .i64 x2, .int .i64 y0, .int .i64 y1, .int .i64 y2, .int .i64 z0, .int .i64 z1, .int .i64 z2] 78 := e8
            have cV : V3.cell? ⟨w.heap.size + 1, 0, none⟩ = some v := o8.at_ 0
            -- the append
            have k9 : But V3.heap.size V3 (V3.alloc (.cells #[.int .i64 (a1 - 1), .int .i64 a2, .int .i64 x0, .int .i64 x1, .int .i64 x2, .int .i64 y0, .int .i64 y1, .int .i64 y2, .int .i64 z0, .int .i64 z1, .int .i64 z2] 78)) := (But.refl _ _).alloc _
            have a9 := Row.aside a8 k9 (by have := Row.lt a8; omega)
            have s9 := Row.aside s8 k9 (by have := Row.lt s8; omega)
            have o9 := Row.aside o8 k9 (by have := Row.lt o8; omega)
            have b9 := b8.alloc (.cells #[.int .i64 (a1 - 1), .int .i64 a2, .int .i64 x0, .int .i64 x1, .int .i64 x2, .int .i64 y0, .int .i64 y1, .int .i64 y2, .int .i64 z0, .int .i64 z1, .int .i64 z2] 78)
            have hbase : w.heap.size + 2 ≤ (V3.alloc (.cells #[.int .i64 (a1 - 1), .int .i64 a2, .int .i64 x0, .int .i64 x1, .int .i64 x2, .int .i64 y0, .int .i64 y1, .int .i64 y2, .int .i64 z0, .int .i64 z1, .int .i64 z2] 78)).heap.size := by have := Row.lt o8; rw [World.size_alloc]; omega
            obtain ⟨v', w9, hrun, own9, gr9⟩ := node_append (V3.alloc (.cells #[.int .i64 (a1 - 1), .int .i64 a2, .int .i64 x0, .int .i64 x1, .int .i64 x2, .int .i64 y0, .int .i64 y1, .int .i64 y2, .int .i64 z0, .int .i64 z1, .int .i64 z2] 78)) (w.heap.size + 2) v l (⟨a1 - 1, a2, ⟨x0, x1, x2⟩, ⟨y0, y1, y2⟩, ⟨z0, z1, z2⟩⟩ : Nd) (by have := HLEN.out; omega) V3.heap.size (World.ownsRow.alloc w8 _) (Row.new V3 #[.int .i64 (a1 - 1), .int .i64 a2, .int .i64 x0, .int .i64 x1, .int .i64 x2, .int .i64 y0, .int .i64 y1, .int .i64 y2, .int .i64 z0, .int .i64 z1, .int .i64 z2] 78) hbase
            obtain ⟨va, vl, vc, rfl⟩ := own_form own9
            have nb : v.ownBlock ≠ some b := own_low w8 (by have := BL.out; omega)
            have a10 := Row.grown a9 gr9 nb
            have s10 := Row.grown s9 gr9 (own_low w8 (by omega))
            have o10 := Row.grown o9 gr9 (own_low w8 (by omega))
            have b10 := b9.grown gr9 (fun k e => by have := (w8.lt k e).1; omega)
            have c10 : w9.cell? ⟨w.heap.size + 1, 0, none⟩ = some v := o10.at_ 0
            have f10 := o10.soft 0
            have k11 : But (w.heap.size + 1) w9 (w9.setCell ⟨w.heap.size + 1, 0, none⟩ (.slice va vl vc)) := (But.refl _ _).setCell (p := ⟨w.heap.size + 1, 0, none⟩) (.inr rfl) _
            have FIN := Lib.hid (show NdSo b w n Q (j + 1) (l ++ [(⟨a1 - 1, a2, ⟨x0, x1, x2⟩, ⟨y0, y1, y2⟩, ⟨z0, z1, z2⟩⟩ : Nd)]) q5 (.slice va vl vc) (w9.setCell ⟨w.heap.size + 1, 0, none⟩ (.slice va vl vc)) from
              ⟨HR2.out, Row.aside a10 k11 (by have := BL.out; omega), b10.setCell (p := ⟨w.heap.size + 1, 0, none⟩) (.inl (by show w.heap.size ≤ w.heap.size + 1; omega)) _, s10.aside k11 (by omega), o10.set 0 (.slice va vl vc), own_keep own9 k11 (own_low own9 (by omega)), by have := HLEN.out; rw [List.length_append, List.length_singleton]; omega⟩)
            have T1 := Lib.hid t1; have T2 := Lib.hid t2; have T3 := Lib.hid t3; have E8 := Lib.hid e8'; have HV1 := Lib.hid hV1; have HV2 := Lib.hid hV2; have HV3 := Lib.hid hV3; have HRUN := Lib.hid hrun
            clear h5 b5 b5' e5 t1 e6 t2 e7 t3 e8 k8 b8 vD a8 s8 o8 w8 hV1 hV2 hV3 e8' k9 a9 s9 o9 b9 hbase hrun own9 gr9 nb a10 s10 o10 b10 k11
            go_wp2_with (first
              | (refine wpList_store_mid rfl 27 _ _ rfl w2.heap.size 2 #[.int .i64 x0, .int .i64 x1, .int .i64 x2] rfl rfl T1.out vec_len (one_cells x0 x1 x2) ?_; rw [show (#[Value.int .i64 x0, .int .i64 x1, .int .i64 x2] : Array Value).toList = [.int .i64 x0, .int .i64 x1, .int .i64 x2] from rfl, HV1.out])
              | (refine wpList_store_mid rfl 27 _ _ rfl w2.heap.size 5 #[.int .i64 y0, .int .i64 y1, .int .i64 y2] rfl rfl T2.out vec_len (one_cells y0 y1 y2) ?_; rw [show (#[Value.int .i64 y0, .int .i64 y1, .int .i64 y2] : Array Value).toList = [.int .i64 y0, .int .i64 y1, .int .i64 y2] from rfl, HV2.out])
              | (refine wpList_store_mid rfl 27 _ _ rfl w2.heap.size 8 #[.int .i64 z0, .int .i64 z1, .int .i64 z2] rfl rfl T3.out vec_len (one_cells z0 z1 z2) ?_; rw [show (#[Value.int .i64 z0, .int .i64 z1, .int .i64 z2] : Array Value).toList = [.int .i64 z0, .int .i64 z1, .int .i64 z2] from rfl, HV3.out])
              | (refine wpList_load_row rfl 78 _ rfl w2.heap.size rfl _ _ _ _ E8.out Try.underlying78 rfl node_len ?_)
              | (at_builtin; refine wpList_append_by rfl _ _ _ _ rfl _ _ _ _ rfl rfl HRUN.out ?_)
              | fail)
            go_roundw
            case rel => exact ⟨j + 1, l ++ [(⟨a1 - 1, a2, ⟨x0, x1, x2⟩, ⟨y0, y1, y2⟩, ⟨z0, z1, z2⟩⟩ : Nd)], q5, .slice va vl vc, rfl, by omega, by omega, FIN.out⟩
            case measure => simp [intOf]; omega
          · have hx : NdAll b w Q v wr := by
              have e := hd.out.rest.symm.trans (many_off (by omega))
              rw [e]
              exact ⟨hd.out.at_, hd.out.but, hd.out.res, hd.out.own, hd.out.row⟩
            have HX := Lib.hid hx; clear hx
            go_wp2_with fail
            go_meet
            exact ⟨v, HX.out⟩
        · have hx : NdAll b w Q v wr := by
            have e := hd.out.rest.symm.trans (many_off (.inr (.inr rfl)))
            rw [e]
            exact ⟨hd.out.at_, hd.out.but, hd.out.res, hd.out.own, hd.out.row⟩
          have HX := Lib.hid hx; clear hx
          go_wp2_with fail
          go_meet
          exact ⟨v, HX.out⟩
      · have hx : NdAll b w Q v wr := by
          have e := hd.out.rest.symm.trans (many_off (by omega))
          rw [e]
          exact ⟨hd.out.at_, hd.out.but, hd.out.res, hd.out.own, hd.out.row⟩
        have HX := Lib.hid hx; clear hx
        go_wp2_with fail
        go_meet
        exact ⟨v, HX.out⟩
  case rest =>
    obtain ⟨vn, hall⟩ := hcut
    obtain ⟨na, nl', nc, rfl⟩ := own_form hall.row
    have HA := Lib.hid hall
    clear hall
    go_wp2_with fail
    refine (CD0.out _ HA.out.at_).mono ?_
    rintro er w1 ⟨rfl, h1, b1⟩
    have so0 : HsSo b wc.heap.size w m Q.1 (.slice na nl' nc) R 0 [] p2 (.slice none 0 0) w1 :=
      ⟨HR.out, h1, HA.out.but.trans b1, HA.out.res.keep b1 (by have := BL.out; omega), HA.out.own.keep b1 (by have := BL.out; omega), own_keep HA.out.row b1 (own_low HA.out.row (by have := BL.out; omega)), fun k e => (HA.out.row.lt k e).2, ⟨by have := HA.out.own.lt; omega, b1.size⟩, World.ownsRow_nil _ _ _ _, rfl⟩
    have S1 := Lib.hid so0
    clear so0 h1 b1
    go_upto_block 2 with fail
    go_cut [7, 8] from 50 to 81 (fun i x wx => ∃ v, HsAll b wc.heap.size w Q.1 (.slice na nl' nc) R v wx)
    case first =>
      go_wp2_with fail
      go_loopw [7] (fun i wr => ∃ (j : Int) (l : List Hs) (q : Cm.St) (v : Value), i = .int .i64 j ∧ 0 ≤ j ∧ j ≤ 25 ∧ Hid (HsSo b wc.heap.size w m Q.1 (.slice na nl' nc) R j l q v wr)) (fun i _ => 25 - (intOf i).toNat)
      case atStart => exact ⟨0, [], p2, _, rfl, by omega, by omega, S1.out⟩
      case round =>
        obtain ⟨j, l, ⟨s, bad⟩, v, rfl, hj0, hj13, hd⟩ := hrel
        have hbad : wr.cell? ⟨b, 1, none⟩ = some (.bool bad) := hd.out.at_.at_ 1
        by_cases hn' : j < m
        · cases bad
          · by_cases h12 : j ≤ 24
            · obtain ⟨q0, hq0⟩ : ∃ q : Cm.St, (⟨s, false⟩ : Cm.St) = q := ⟨_, rfl⟩
              have hqb : q0.bad = false := by rw [← hq0]
              rw [hq0] at hd
              clear hq0
              have c1 := fun w h => rNum_any b q0 w h
              obtain ⟨⟨a1, q1⟩, e1⟩ : ∃ r, Cm.num q0 = r := ⟨_, rfl⟩
              rw [e1] at c1
              have c2 := fun w h => rNum_any b q1 w h
              obtain ⟨⟨a2, q2⟩, e2⟩ : ∃ r, Cm.num q1 = r := ⟨_, rfl⟩
              rw [e2] at c2
              have c3 := fun w h => rNum_any b q2 w h
              obtain ⟨⟨a3, q3⟩, e3⟩ : ∃ r, Cm.num q2 = r := ⟨_, rfl⟩
              rw [e3] at c3
              have c4 := fun w h => rVecOf_any b q3 w h
              obtain ⟨⟨⟨x0, x1, x2⟩, q4⟩, e4⟩ : ∃ r, Cm.vec q3 = r := ⟨_, rfl⟩
              rw [e4] at c4
              have en : Cm.host q0 = ((⟨a1, a2, a3, ⟨x0, x1, x2⟩⟩ : Hs), q4) := by simp only [Cm.host, e1, e2, e3, e4]
              simp only at c1 c2 c3 c4
              have hrest := hd.out.rest
              rw [show 25 - j.toNat = (25 - (j + 1).toNat) + 1 by omega, many_on (by omega) hqb, en] at hrest
              have hlen := hd.out.len
              have C1 := Lib.hid c1; have C2 := Lib.hid c2; have C3 := Lib.hid c3; have C4 := Lib.hid c4
              have HR2 := Lib.hid hrest; have HLEN := Lib.hid hlen
              clear c1 c2 c3 c4 e1 e2 e3 e4 en hrest hlen hqb
              go_wp2_with fail
              refine (C1.out _ hd.out.at_).mono ?_
              rintro er w1 ⟨rfl, h1, b1⟩
              have H1 := Lib.hid h1; have B1 := Lib.hid b1; clear h1 b1 hbad
              go_wp2_with fail
              refine (C2.out _ H1.out).mono ?_
              rintro er w2 ⟨rfl, h2, b2⟩
              have H2 := Lib.hid h2; have B2 := Lib.hid (B1.out.trans b2); clear h2 b2
              go_wp2_with fail
              refine (C3.out _ H2.out).mono ?_
              rintro er w3 ⟨rfl, h3, b3⟩
              have b3' := B2.out.trans b3
              have lD : wr.heap.size ≤ w3.heap.size := b3'.size
              have lw : w.heap.size + 1 < wr.heap.size := hd.out.own.lt
              have nD : w3.heap.size ≠ b ∧ w3.heap.size ≠ w.heap.size ∧ w3.heap.size ≠ w.heap.size + 1 ∧ w.heap.size ≤ w3.heap.size := by have := BL.out; omega
              have ND := Lib.hid nD; have LD := Lib.hid lD
              have H3 := Lib.hid (show PAt b q3 (w3.alloc (.cells #[.int .i64 a1, .int .i64 a2, .int .i64 a3, .int .i64 0, .int .i64 0, .int .i64 0] 81)) from Row.keep (b := w3.heap.size) h3 (But.of_below ((Below.refl _ _).alloc (Nat.le_refl _) _)) (Ne.symm nD.1))
              have B3 := Lib.hid (b3'.alloc (.cells #[.int .i64 a1, .int .i64 a2, .int .i64 a3, .int .i64 0, .int .i64 0, .int .i64 0] 81))
              have E3 := Lib.hid (Row.new w3 #[.int .i64 a1, .int .i64 a2, .int .i64 a3, .int .i64 0, .int .i64 0, .int .i64 0] 81)
              clear h3 b3 b3' nD lD lw
              go_wp2_with fail
              refine (C4.out _ H3.out).mono ?_
              rintro er w5 ⟨rfl, h5, b5⟩
              have b5' := B3.out.trans b5
              have e5 := E3.out.keep b5 ND.out.1
              have t1 := e5.there 3 3 (by simp)
              have e8 : Row _ w3.heap.size #[.int .i64 a1, .int .i64 a2, .int .i64 a3, .int .i64 x0, .int .i64 x1, .int .i64 x2] 81 := e5.set3 3 (.int .i64 x0) (.int .i64 x1) (.int .i64 x2)
              have k8 := (But.refl w3.heap.size w5).set3 (g := w3.heap.size) (.inr rfl) 3 (.int .i64 x0) (.int .i64 x1) (.int .i64 x2)
              have b8 := (hd.out.but.trans b5').set3 (g := w3.heap.size) (.inl ND.out.2.2.2) 3 (.int .i64 x0) (.int .i64 x1) (.int .i64 x2)
              have vD : v.ownBlock ≠ some w3.heap.size := fun e => by have := (hd.out.rowh.lt _ e).2; have := LD.out; omega
              have vN : (Value.slice na nl' nc).ownBlock ≠ some w3.heap.size := fun e => by have := (hd.out.row.lt _ e).2; have := LD.out; omega
              have a8 := Row.aside h5 k8 ND.out.1
              have s8 := (hd.out.res.keep b5' (by have := BL.out; omega)).aside k8 ND.out.2.1
              have o8 := (hd.out.own.keep b5' (by have := BL.out; omega)).aside k8 ND.out.2.2.1
              have w8 := own_keep (own_keep hd.out.rowh b5' (own_low hd.out.rowh (by have := BL.out; have := hd.out.base; omega))) k8 vD
              have n8 := own_keep (own_keep hd.out.row b5' (own_low hd.out.row (by have := BL.out; omega))) k8 vN
              have sz8 : wr.heap.size ≤ (w5.setCells w3.heap.size 3 [.int .i64 x0, .int .i64 x1, .int .i64 x2]).heap.size := Nat.le_trans b5'.size k8.size
              obtain ⟨V3, hV3⟩ : ∃ V, w5.setCells w3.heap.size 3 [.int .i64 x0, .int .i64 x1, .int .i64 x2] = V := ⟨_, rfl⟩
              rw [hV3] at e8 k8 b8 a8 s8 o8 w8 n8 sz8
              have cV : V3.cell? ⟨w.heap.size + 1, 1, none⟩ = some v := o8.at_ 1
              -- the append
              have k9 : But V3.heap.size V3 (V3.alloc (.cells #[.int .i64 a1, .int .i64 a2, .int .i64 a3, .int .i64 x0, .int .i64 x1, .int .i64 x2] 81)) := (But.refl _ _).alloc _
              have a9 := Row.aside a8 k9 (by have := Row.lt a8; omega)
              have s9 := Row.aside s8 k9 (by have := Row.lt s8; omega)
              have o9 := Row.aside o8 k9 (by have := Row.lt o8; omega)
              have n9 := World.ownsRow.alloc n8 (.cells #[.int .i64 a1, .int .i64 a2, .int .i64 a3, .int .i64 x0, .int .i64 x1, .int .i64 x2] 81)
              have b9 := b8.alloc (.cells #[.int .i64 a1, .int .i64 a2, .int .i64 a3, .int .i64 x0, .int .i64 x1, .int .i64 x2] 81)
              have hbase : wc.heap.size ≤ (V3.alloc (.cells #[.int .i64 a1, .int .i64 a2, .int .i64 a3, .int .i64 x0, .int .i64 x1, .int .i64 x2] 81)).heap.size := by have := hd.out.base.2; rw [World.size_alloc]; omega
              obtain ⟨v', w9, hrun, own9, gr9⟩ := host_append (V3.alloc (.cells #[.int .i64 a1, .int .i64 a2, .int .i64 a3, .int .i64 x0, .int .i64 x1, .int .i64 x2] 81)) wc.heap.size v l (⟨a1, a2, a3, ⟨x0, x1, x2⟩⟩ : Hs) (by have := HLEN.out; omega) V3.heap.size (World.ownsRow.alloc w8 _) (Row.new V3 #[.int .i64 a1, .int .i64 a2, .int .i64 a3, .int .i64 x0, .int .i64 x1, .int .i64 x2] 81) hbase
              obtain ⟨va, vl, vc, rfl⟩ := own_form own9
              have hB := hd.out.base.1
              have nb : v.ownBlock ≠ some b := own_low w8 (by have := BL.out; omega)
              have a10 := Row.grown a9 gr9 nb
              have s10 := Row.grown s9 gr9 (own_low w8 (by omega))
              have o10 := Row.grown o9 gr9 (own_low w8 (by omega))
              have b10 := b9.grown gr9 (fun k e => by have := (w8.lt k e).1; omega)
              have n10 : w9.ownsRow _ _ _ _ _ _ := n9.kept gr9 (by
                rcases hk : (Value.slice na nl' nc).ownBlock with _ | k
                · exact .inl rfl
                · refine .inr fun e => ?_
                  have h1 := hd.out.low k hk
                  have h2 := (w8.lt k e.symm).1
                  omega)
              have c10 : w9.cell? ⟨w.heap.size + 1, 1, none⟩ = some v := o10.at_ 1
              have f10 := o10.soft 1
              have sz9 : wc.heap.size ≤ (w9.setCell ⟨w.heap.size + 1, 1, none⟩ (.slice va vl vc)).heap.size := by
                have := gr9.size
                have h := ((But.refl (w.heap.size + 1) w9).setCell (p := ⟨w.heap.size + 1, 1, none⟩) (.inr rfl) (.slice va vl vc)).size
                omega
              have k11 : But (w.heap.size + 1) w9 (w9.setCell ⟨w.heap.size + 1, 1, none⟩ (.slice va vl vc)) := (But.refl _ _).setCell (p := ⟨w.heap.size + 1, 1, none⟩) (.inr rfl) _
              have FIN := Lib.hid (show HsSo b wc.heap.size w m Q.1 (.slice na nl' nc) R (j + 1) (l ++ [(⟨a1, a2, a3, ⟨x0, x1, x2⟩⟩ : Hs)]) q4 (.slice va vl vc) (w9.setCell ⟨w.heap.size + 1, 1, none⟩ (.slice va vl vc)) from
                ⟨HR2.out, Row.aside a10 k11 (by have := BL.out; omega), b10.setCell (p := ⟨w.heap.size + 1, 1, none⟩) (.inl (by show w.heap.size ≤ w.heap.size + 1; omega)) _, s10.aside k11 (by omega), o10.set 1 (.slice va vl vc), own_keep n10 k11 (own_low n10 (by omega)), hd.out.low, ⟨hB, sz9⟩, own_keep own9 k11 (own_low own9 (by omega)), by have := HLEN.out; rw [List.length_append, List.length_singleton]; omega⟩)
              have T1 := Lib.hid t1; have E8 := Lib.hid e8; have HV3 := Lib.hid hV3; have HRUN := Lib.hid hrun
              clear h5 b5 b5' e5 t1 e8 k8 b8 vD vN a8 s8 o8 w8 n8 hV3 k9 a9 s9 o9 n9 b9 hbase hrun own9 gr9 nb a10 s10 o10 b10 n10 k11 sz8 sz9 hB
              go_wp2_with (first
                | (refine wpList_store_mid rfl 27 _ _ rfl w3.heap.size 3 #[.int .i64 x0, .int .i64 x1, .int .i64 x2] rfl rfl T1.out vec_len (one_cells x0 x1 x2) ?_; rw [show (#[Value.int .i64 x0, .int .i64 x1, .int .i64 x2] : Array Value).toList = [.int .i64 x0, .int .i64 x1, .int .i64 x2] from rfl, HV3.out])
                | (refine wpList_load_row rfl 81 _ rfl w3.heap.size rfl _ _ _ _ E8.out Try.underlying81 rfl host_len ?_)
                | (at_builtin; refine wpList_append_by rfl _ _ _ _ rfl _ _ _ _ rfl rfl HRUN.out ?_)
                | fail)
              go_roundw
              case rel => exact ⟨j + 1, l ++ [(⟨a1, a2, a3, ⟨x0, x1, x2⟩⟩ : Hs)], q4, .slice va vl vc, rfl, by omega, by omega, FIN.out⟩
              case measure => simp [intOf]; omega
            · have hx : HsAll b wc.heap.size w Q.1 (.slice na nl' nc) R v wr := by
                have e := hd.out.rest.symm.trans (many_off (by omega))
                rw [e]
                exact ⟨hd.out.at_, hd.out.but, hd.out.res, hd.out.own, hd.out.row, hd.out.low, hd.out.base.1, hd.out.rowh⟩
              have HX := Lib.hid hx; clear hx
              go_wp2_with fail
              go_meet
              exact ⟨v, HX.out⟩
          · have hx : HsAll b wc.heap.size w Q.1 (.slice na nl' nc) R v wr := by
              have e := hd.out.rest.symm.trans (many_off (.inr (.inr rfl)))
              rw [e]
              exact ⟨hd.out.at_, hd.out.but, hd.out.res, hd.out.own, hd.out.row, hd.out.low, hd.out.base.1, hd.out.rowh⟩
            have HX := Lib.hid hx; clear hx
            go_wp2_with fail
            go_meet
            exact ⟨v, HX.out⟩
        · have hx : HsAll b wc.heap.size w Q.1 (.slice na nl' nc) R v wr := by
            have e := hd.out.rest.symm.trans (many_off (by omega))
            rw [e]
            exact ⟨hd.out.at_, hd.out.but, hd.out.res, hd.out.own, hd.out.row, hd.out.low, hd.out.base.1, hd.out.rowh⟩
          have HX := Lib.hid hx; clear hx
          go_wp2_with fail
          go_meet
          exact ⟨v, HX.out⟩
    case rest =>
      obtain ⟨vh, hall⟩ := hcut
      obtain ⟨ha, hl', hc, rfl⟩ := own_form hall.rowh
      have HB := Lib.hid hall
      clear hall
      go_wp2_with fail
      refine (CD1.out _ HB.out.at_).mono ?_
      rintro er w3 ⟨rfl, h3, b3⟩
      have H3 := Lib.hid h3; have B3 := Lib.hid b3; clear h3 b3
      go_wp2_with fail
      refine (CD2.out _ H3.out).mono ?_
      rintro er w4 ⟨rfl, h4, b4⟩
      obtain ⟨x, hx⟩ : ∃ x, (Cm.num R.2).1 = x := ⟨_, rfl⟩
      obtain ⟨y, hy⟩ : ∃ x, (Cm.num (Cm.num R.2).2).1 = x := ⟨_, rfl⟩
      rw [hx, hy]
      have b4' := B3.out.trans b4
      have o4 := HB.out.own.keep b4' (by have := BL.out; omega)
      have r4 := HB.out.res.keep b4' (by have := BL.out; omega)
      have n4 := own_keep HB.out.row b4' (own_low HB.out.row (by have := BL.out; omega))
      have g4 := own_keep HB.out.rowh b4' (own_low HB.out.rowh (by have := BL.out; have := HB.out.base; omega))
      have c2 : w4.cell? ⟨w.heap.size + 1, 2, none⟩ = some (.int .i64 0) := o4.at_ 2
      have c3 : w4.cell? ⟨w.heap.size + 1, 3, none⟩ = some (.int .i64 0) := o4.at_ 3
      have f2 := o4.soft 2
      have f3 := o4.soft 3
      have k5 := ((But.refl (w.heap.size + 1) w4).setCell (p := ⟨w.heap.size + 1, 2, none⟩) (.inr rfl) (.int .i64 x)).setCell (p := ⟨w.heap.size + 1, 3, none⟩) (.inr rfl) (.int .i64 y)
      have b5 := ((HB.out.but.trans b4').setCell (p := ⟨w.heap.size + 1, 2, none⟩) (.inl (by show w.heap.size ≤ w.heap.size + 1; omega)) (.int .i64 x)).setCell (p := ⟨w.heap.size + 1, 3, none⟩) (.inl (by show w.heap.size ≤ w.heap.size + 1; omega)) (.int .i64 y)
      have o5 : Row _ (w.heap.size + 1) #[.slice na nl' nc, .slice ha hl' hc, .int .i64 x, .int .i64 y] 25 := (o4.set 2 (.int .i64 x)).set 3 (.int .i64 y)
      have a5 := Row.aside h4 k5 (by have := BL.out; omega)
      have r5 := r4.aside k5 (by omega)
      have n5 := own_keep n4 k5 (own_low n4 (by omega))
      have g5 := own_keep g4 k5 (own_low g4 (by have := HB.out.base; omega))
      obtain ⟨W5, hW5⟩ : ∃ V, (w4.setCell ⟨w.heap.size + 1, 2, none⟩ (.int .i64 x)).setCell ⟨w.heap.size + 1, 3, none⟩ (.int .i64 y) = V := ⟨_, rfl⟩
      rw [hW5] at b5 o5 a5 r5 n5 g5 k5
      have k6 : But w.heap.size W5 (W5.setRow w.heap.size #[.slice na nl' nc, .slice ha hl' hc, .int .i64 x, .int .i64 y]) := (But.refl _ _).setRow (.inr rfl) _
      have FIN := Lib.hid (show PAt b _ _ ∧ But b w _ ∧ World.ownsRow _ (w.heap.size + 2) 78 11 (.slice na nl' nc) Q.1.length (cellsOf Nd.c Q.1) ∧ World.ownsRow _ (w.heap.size + 2) 81 6 (.slice ha hl' hc) R.1.length (cellsOf Hs.c R.1) from
        ⟨Row.aside a5 k6 (by have := BL.out; omega), b5.setRow (.inl (Nat.le_refl _)) #[.slice na nl' nc, .slice ha hl' hc, .int .i64 x, .int .i64 y], own_keep n5 k6 (own_low n5 (by omega)), own_base (own_keep g5 k6 (own_low g5 (by have := HB.out.base; omega))) HB.out.base⟩)
      have R6 := Lib.hid (r5.setRow #[.slice na nl' nc, .slice ha hl' hc, .int .i64 x, .int .i64 y])
      have O5 := Lib.hid o5; have R5 := Lib.hid r5; have HW5 := Lib.hid hW5; have HXY := Lib.hid (And.intro hx hy)
      clear h4 b4 b4' o4 r4 n4 g4 k5 b5 o5 a5 r5 n5 g5 hW5 k6 hx hy
      go_wp2_with (first
        | (rw [HW5.out]; refine wpList_load_row rfl 25 _ rfl (w.heap.size + 1) rfl _ _ _ _ O5.out Try.underlying25 rfl config_len ?_)
        | (refine wpList_store_row rfl 25 _ _ rfl w.heap.size #[.slice na nl' nc, .slice ha hl' hc, .int .i64 x, .int .i64 y] rfl rfl _ _ R5.out config_len rfl (Cf.one _ _ _ _ _ _ _ _) ?_)
        | fail)
      refine bodyPost_ret (results_cell_row (p := 2) (by kernel_rfl) _ _ w.heap.size _ _ _ _ rfl R6.out Try.underlying25 rfl config_len) rfl ?_
      rw [HXY.out.1, HXY.out.2]
      exact ⟨_, _, rfl, FIN.out⟩

end Go.Proofs.Ytpnfhcpapjomnaa
