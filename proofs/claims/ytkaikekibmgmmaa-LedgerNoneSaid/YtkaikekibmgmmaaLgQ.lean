/- What all nodes use while gangs run: plainly; the plain answer's Of. -/
import Derived.Test.YtkaikekibmgmmaaLgB
import Derived.Test.YtkaikekibmgmmaaLgA
import Derived.Test.YtkaikekibmgmmaaRun
namespace Go.Proofs.Ytkaikekibmgmmaa
open Go.RowKit
set_option linter.unusedVariables false

namespace Lg
/-- A gang's demand; one more that runs; all of them. -/
def dem (g : Gg) : V3 := times g.need g.pods
def one (ns : List Nd) (x : Rv) (l : List V3) : List V3 := if Cf.leaf ns x.r.g.ten = true then upd (fun u => Qt.add u (dem x.r.g)) (Qt.path ns x.r.g.ten) l else l
def ofL (ns : List Nd) : List Rv → List V3 → List V3
  | [], l => l
  | x :: r, l => ofL ns r (one ns x l)
theorem ofL_snoc (ns : List Nd) : ∀ (r : List Rv) (x : Rv) (l : List V3), ofL ns (r ++ [x]) l = one ns x (ofL ns r l)
  | [], x, l => rfl
  | y :: r, x, l => by rw [List.cons_append, ofL, ofL_snoc ns r, ofL]
def ofTo (ns : List Nd) (rs : List Rv) (j : Nat) : List V3 := ofL ns (rs.take j) (List.replicate ns.length Qt.z3)
def ofAll (ns : List Nd) (rs : List Rv) : List V3 := ofL ns rs (List.replicate ns.length Qt.z3)
theorem ofTo_succ (ns : List Nd) {rs : List Rv} {j : Nat} {x : Rv} (h : rs[j]? = some x) : ofTo ns rs (j + 1) = one ns x (ofTo ns rs j) := by
  rw [ofTo, ofTo, List.take_add_one, h]
  exact ofL_snoc _ _ _ _
theorem one_len (ns : List Nd) (x : Rv) (l : List V3) : (one ns x l).length = l.length := by
  unfold one
  split
  · exact upd_len _ _ _
  · rfl
theorem ofL_len (ns : List Nd) : ∀ (r : List Rv) (l : List V3), (ofL ns r l).length = l.length
  | [], l => rfl
  | x :: r, l => by rw [ofL, ofL_len ns r, one_len]
theorem ofTo_len (ns : List Nd) (rs : List Rv) (j : Nat) : (ofTo ns rs j).length = ns.length := by rw [ofTo, ofL_len, List.length_replicate]
end Lg

set_option maxRecDepth 4000 in
theorem rDem12 (g : Gg) (w : World) : Calls Try.prog 39 #[.agg g.c] w (RetBelow (.agg (Lg.dem g).c) w) := by
  have ht := fun w => rTimes3 g.need g.pods w
  obtain ⟨s, hs⟩ : ∃ s, Lg.times g.need g.pods = s := ⟨_, rfl⟩
  have hd : Lg.dem g = s := hs
  rw [hd]
  simp only [hs] at ht
  clear hs hd
  obtain ⟨a, b, c, ⟨x, y, z⟩, d, e, f⟩ := g
  obtain ⟨s1, s2, s3⟩ := s
  simp only [Gg.c, V3.c] at ht ⊢
  have HT := Lib.hid ht
  clear ht
  have r0 := Row.new w #[.int .i64 a, .int .i64 b, .int .i64 c, .int .i64 x, .int .i64 y, .int .i64 z, .int .i64 d, .int .i64 e, .int .i64 f] 71
  have r1 := Row.new (w.alloc (.cells #[.int .i64 a, .int .i64 b, .int .i64 c, .int .i64 x, .int .i64 y, .int .i64 z, .int .i64 d, .int .i64 e, .int .i64 f] 71)) #[.int .i64 0, .int .i64 0, .int .i64 0] 35
  rw [World.size_alloc] at r1
  have R0 := r0.under ((Below.refl _ _).alloc (Nat.le_refl _) (.cells #[.int .i64 0, .int .i64 0, .int .i64 0] 35))
  have G0 := two_below w (.cells #[.int .i64 a, .int .i64 b, .int .i64 c, .int .i64 x, .int .i64 y, .int .i64 z, .int .i64 d, .int .i64 e, .int .i64 f] 71) (.cells #[.int .i64 0, .int .i64 0, .int .i64 0] 35)
  obtain ⟨W, hW⟩ : ∃ W, (w.alloc (.cells #[.int .i64 a, .int .i64 b, .int .i64 c, .int .i64 x, .int .i64 y, .int .i64 z, .int .i64 d, .int .i64 e, .int .i64 f] 71)).alloc (.cells #[.int .i64 0, .int .i64 0, .int .i64 0] 35) = W := ⟨_, rfl⟩
  go_enter Try.func39, Try.ntmps39
  go_upto_region 1 with fail
  rw [hW] at R0 G0
  have q2 : W.cell? ⟨w.heap.size, 2, none⟩ = some (.int .i64 c) := R0.at_ 2
  have q3 : W.cell? ⟨w.heap.size, 3, none⟩ = some (.int .i64 x) := R0.at_ 3
  have q4 : W.cell? ⟨w.heap.size, 4, none⟩ = some (.int .i64 y) := R0.at_ 4
  have q5 : W.cell? ⟨w.heap.size, 5, none⟩ = some (.int .i64 z) := R0.at_ 5
  have r1' := r1
  rw [hW] at r1'
  have R1 := Lib.hid r1'; have GG := Lib.hid G0
  clear R0 r0 r1 r1' G0 hW
  go_wp2_with fail
  refine (HT.out _).mono ?_
  rintro er w1 ⟨rfl, b1⟩
  have R2 := Lib.hid (R1.out.under b1); have G2 := Lib.hid (below_trans GG.out b1)
  clear b1 q2 q3 q4 q5
  go_wp2_with (first | (refine wpList_store_row rfl 35 _ _ rfl (w.heap.size + 1) #[.int .i64 s1, .int .i64 s2, .int .i64 s3] rfl rfl _ _ R2.out vec_len rfl (one_cells s1 s2 s3) ?_) | fail)
  refine bodyPost_ret (results_cell_row (p := 2) (by kernel_rfl) _ _ (w.heap.size + 1) _ _ _ _ rfl (R2.out.setRow _) Try.underlying35 rfl vec_len) rfl ?_
  exact ⟨rfl, below_setRow3 G2.out (by omega) _⟩

/-- What is used, so far. -/
structure OfSo (w : World) (C4 : Array Value) (L : List V3) (wr : World) : Prop where
  box : Row wr w.heap.size C4 25
  rows : Row wr (w.heap.size + 1) (cellsOf V3.c L).toArray 35
  low : Below w.heap.size w wr
theorem OfSo.under {w wr wz : World} {C4 : Array Value} {L : List V3} (h : OfSo w C4 L wr) (g : Below wr.heap.size wr wz) : OfSo w C4 L wz := ⟨h.box.under g, h.rows.under g, below_trans h.low g⟩

set_option maxHeartbeats 2000000 in
set_option maxRecDepth 8000 in
theorem rOf12 {c : Cmd} {vn vh : Value} {w : World} (hC : CmAt c vn vh w) (h12 : c.nodes.length ≤ 12) {rs : List Rv} {ar : Option Addr} {cr rb ro : Nat} (hR : Sl Rv.c 48 14 w ar cr rb ro rs) :
    Calls Try.prog 21 #[.agg (c.f vn vh), .slice ar rs.length cr] w fun e w' => e = .returned (.slice (some ⟨w.heap.size + 1, 0, none⟩) c.nodes.length c.nodes.length) ∧ Row w' (w.heap.size + 1) (cellsOf V3.c (Lg.ofAll c.nodes rs)).toArray 35 ∧ Below w.heap.size w w' := by
  have hlf := fun t w2 (g : Below w.heap.size w w2) => rLeafAt12 t (hC.kept g)
  have hpa := fun t w2 (g : Below w.heap.size w w2) => rPathAt t (hC.kept g) h12
  have hpi : ∀ t, ∀ n ∈ Qt.path c.nodes t, 0 ≤ n ∧ n < (c.nodes.length : Int) := fun t n hn => Lg.path_in c.nodes _ _ _ (by simp) n hn
  have hun := fun j x h => @Lg.ofTo_succ c.nodes rs j x h
  have hul := fun j => Lg.ofTo_len c.nodes rs j
  have hu0 : Lg.ofTo c.nodes rs 0 = List.replicate c.nodes.length Qt.z3 := rfl
  have hue : ∀ j : Int, j = rs.length → Lg.ofTo c.nodes rs j.toNat = Lg.ofAll c.nodes rs := fun j h => by rw [h, Int.toNat_natCast, Lg.ofTo, List.take_length]; rfl
  have hrx := hR.idx
  have r63 := hR.small
  obtain ⟨an, ln, cn, ah, lh, ch, rfl, rfl⟩ := hC.slices
  obtain ⟨A, hA⟩ : ∃ a, Lg.ofAll c.nodes rs = a := ⟨_, rfl⟩
  rw [hA] at hue ⊢
  obtain ⟨U, hU⟩ : ∃ f, Lg.ofTo c.nodes rs = f := ⟨_, rfl⟩
  simp only [hU] at hun hul hu0 hue
  have hln : ln = c.nodes.length := by
    obtain ⟨_, _, _, _, _, _, _, _, e1, _⟩ := hC
    injection e1
  subst hln
  obtain ⟨kind, ns, hosts, half, age, g, n⟩ := c
  simp only [Cmd.f] at *
  obtain ⟨nl, hnl⟩ : ∃ n, ns.length = n := ⟨_, rfl⟩
  obtain ⟨rl, hrl⟩ : ∃ n, rs.length = n := ⟨_, rfl⟩
  rw [hnl] at hlf hpa h12 hu0 ⊢
  simp only [hnl] at hul hpi
  rw [hrl] at hrx r63 hue ⊢
  obtain ⟨zn, hzn⟩ : ∃ z : Int, (nl : Int) = z := ⟨_, rfl⟩
  obtain ⟨zr, hzr⟩ : ∃ z : Int, (rl : Int) = z := ⟨_, rfl⟩
  have HLF := Lib.hid hlf; have HPA := Lib.hid hpa; have HPI := Lib.hid hpi; have HUN := Lib.hid hun; have HUL := Lib.hid hul; have HU0 := Lib.hid hu0; have HUE := Lib.hid hue; have HRX := Lib.hid hrx; have HR := Lib.hid hR; have HNL := Lib.hid hnl; have HRL := Lib.hid hrl; have HZN := Lib.hid hzn; have HZR := Lib.hid hzr
  clear hlf hpa hpi hun hul hu0 hue hrx hR hC hA hU hnl hrl
  have r0 := Row.new w #[.slice an nl cn, .slice ah lh ch, .int .i64 half, .int .i64 age] 25
  have g0 : Below w.heap.size w (w.alloc (.cells #[.slice an nl cn, .slice ah lh ch, .int .i64 half, .int .i64 age] 25)) := (Below.refl _ _).alloc (Nat.le_refl _) _
  have z0 : (w.alloc (.cells #[.slice an nl cn, .slice ah lh ch, .int .i64 half, .int .i64 age] 25)).heap.size = w.heap.size + 1 := World.size_alloc _ _
  obtain ⟨W, hW⟩ : ∃ W, w.alloc (.cells #[.slice an nl cn, .slice ah lh ch, .int .i64 half, .int .i64 age] 25) = W := ⟨_, rfl⟩
  go_enter Try.func21, Try.ntmps21
  go_upto_region 1 with fail
  rw [hW] at r0 g0 z0
  have q0 : W.cell? ⟨w.heap.size, 0, none⟩ = some (.slice an nl cn) := r0.at_ 0
  have s0 : OfSo w #[.slice an nl cn, .slice ah lh ch, .int .i64 half, .int .i64 age] (U 0) (W.alloc (.cells (cellsOf V3.c (List.replicate nl Qt.z3)).toArray 35)) := by
    have al := (Below.refl W.heap.size W).alloc (Nat.le_refl _) (.cells (cellsOf V3.c (List.replicate nl Qt.z3)).toArray 35)
    have rr := Row.new W (cellsOf V3.c (List.replicate nl Qt.z3)).toArray 35
    rw [z0] at rr
    exact ⟨r0.under al, by rw [HU0.out]; exact rr, below_trans g0 al⟩
  have S0 := Lib.hid s0
  clear s0 r0 g0 hW
  have hmk := make_now W nl h12
  rw [z0] at hmk
  simp only [hzn] at hmk
  clear z0
  go_wp2_with fail
  clear hmk q0
  go_loopw [6] (fun i wr => ∃ (j : Int), i = .int .i64 j ∧ 0 ≤ j ∧ j ≤ zr ∧ Hid (OfSo w #[.slice an nl cn, .slice ah lh ch, .int .i64 half, .int .i64 age] (U j.toNat) wr)) (fun i _ => (zr - intOf i).toNat)
  case atStart => exact ⟨0, rfl, by omega, by omega, S0.out⟩
  case round =>
    obtain ⟨j, rfl, hj0, hjz, hd⟩ := hrel
    by_cases hlt : j < zr
    · obtain ⟨x, hx⟩ : ∃ x, rs[j.toNat]? = some x := ⟨_, List.getElem?_eq_getElem (by have := HRL.out; omega)⟩
      have hi := HRX.out j.toNat (by omega)
      rw [show ((j.toNat : Nat) : Int) = j by omega] at hi
      have hr := fun w9 (g : Below w.heap.size w w9) => (HR.out.kept g).at_ j.toNat x hx
      have hun := HUN.out j.toNat x hx
      have hlf := fun w9 g => HLF.out x.r.g.ten w9 g
      have hpa := fun w9 g => HPA.out x.r.g.ten w9 g
      have hpi := HPI.out x.r.g.ten
      have hde := fun w => rDem12 x.r.g w
      obtain ⟨D, hD⟩ : ∃ d, Lg.dem x.r.g = d := ⟨_, rfl⟩
      obtain ⟨LF, hLF⟩ : ∃ d, Cf.leaf ns x.r.g.ten = d := ⟨_, rfl⟩
      obtain ⟨P, hP⟩ : ∃ d, Qt.path ns x.r.g.ten = d := ⟨_, rfl⟩
      have hadd := fun y w2 => rAdd3 y D w2
      rw [Lg.one, hD, hLF, hP] at hun
      simp only [hLF] at hlf
      simp only [hP] at hpa
      simp only [hP] at hpi
      simp only [hD] at hde
      obtain ⟨⟨⟨g1, g2, g3, ⟨gx, gy, gz⟩, g4, g5, g6⟩, sq, at_, st, fl, hl⟩, hv⟩ := x
      simp only [Rv.c, Gg.c] at hr hde hlf hpa
      obtain ⟨ri, hri⟩ : ∃ n, ro + j.toNat * 14 = n := ⟨_, rfl⟩
      rw [hri] at hi
      simp only [hri] at hr
      have DR := Lib.hid (below_drewN (Below.refl wr.heap.size wr) 1)
      have hten := fun w9 (g : Below wr.heap.size wr w9) => (show w9.cell? ⟨rb, ri + 1, none⟩ = some (.int .i64 g2) from hr w9 (below_trans hd.out.low g) 1 _ rfl)
      have rr := fun w2 (g : Below wr.heap.size wr w2) => cfg_row' hd.out.box g
      have HI := Lib.hid hi; have HRW := Lib.hid hr; have HUJ := Lib.hid hun; have HLJ := Lib.hid (fun w9 (g : Below wr.heap.size wr w9) => hlf w9 (below_trans hd.out.low g)); have HPJ := Lib.hid hpa; have HPIJ := Lib.hid hpi; have HDE := Lib.hid hde; have HTEN := Lib.hid hten; have HADD := Lib.hid hadd; have SD := Lib.hid hd.out
      clear hi hr hun hlf hpa hpi hde hten hadd hx hri hD hLF hP hd
      go_wp2_with fail
      refine region_quiet (fun w2 => Below wr.heap.size wr w2) (by kernel_rfl) (by kernel_rfl) (below_drewN (Below.refl _ _) 1) ?_
      repeat (first
        | (go_big_quiet_skip)
        | (refine quiet_row _ _ 25 _ _ rr rfl rfl ?_ Try.underlying25 rfl ?_ ?_; (focus kernel_rfl); (focus kernel_rfl); simp only [Act.put, List.setIfInBounds_toArray, List.set_cons_zero, List.set_cons_succ])
        | (with_reducible refine quiet_index 48 _ _ _ _ _ (fun w0 => HI.out w0) rfl rfl rfl ?_ ?_; (focus kernel_rfl); simp only [Act.put, List.setIfInBounds_toArray, List.set_cons_zero, List.set_cons_succ])
        | (refine quiet_cell _ _ 3 _ _ HTEN.out rfl rfl ?_ Try.underlying3 rfl ?_; (focus kernel_rfl); simp only [Act.put, List.setIfInBounds_toArray, List.set_cons_zero, List.set_cons_succ])
        | (go_big_quiet_step ((intro g2; first
          | (with_reducible rfl)
          | (with_reducible exact quiet_below g2 (HLJ.out _ g2))))))
      refine wpQuiet_nil ?_
      intro w5 b5
      have S5 := Lib.hid (SD.out.under b5)
      clear b5 rr HLJ HTEN SD DR
      cases LF
      · have hu := HUJ.out
        rw [if_neg (by simp)] at hu
        have HUU := Lib.hid hu
        clear hu HUJ
        go_wp2_with fail
        go_roundw
        case rel => exact ⟨j + 1, rfl, by omega, by omega, by rw [show (j + 1).toNat = j.toNat + 1 by omega, HUU.out]; exact S5.out⟩
        case measure => simp [intOf]; omega
      have hu := HUJ.out
      rw [if_pos rfl] at hu
      have HUU := Lib.hid hu
      clear hu HUJ
      have p0 : w5.cell? ⟨w.heap.size, 0, none⟩ = some (.slice an nl cn) := S5.out.box.at_ 0
      have p1 : w5.cell? ⟨w.heap.size, 1, none⟩ = some (.slice ah lh ch) := S5.out.box.at_ 1
      have p2 : w5.cell? ⟨w.heap.size, 2, none⟩ = some (.int .i64 half) := S5.out.box.at_ 2
      have p3 : w5.cell? ⟨w.heap.size, 3, none⟩ = some (.int .i64 age) := S5.out.box.at_ 3
      have p4 : w5.cell? ⟨rb, ri + 1, none⟩ = some (.int .i64 g2) := HRW.out w5 S5.out.low 1 _ rfl
      have S5D := Lib.hid (S5.out.under (below_drewN (Below.refl w5.heap.size w5) 1))
      have hi := HI.out
      go_upto_region 6 with fail
      go_region_held3 (fun w' => w'.cell? ⟨w.heap.size, 0, none⟩ = some (.slice an nl cn) ∧ w'.cell? ⟨w.heap.size, 1, none⟩ = some (.slice ah lh ch) ∧ w'.cell? ⟨w.heap.size, 2, none⟩ = some (.int .i64 half) ∧ w'.cell? ⟨w.heap.size, 3, none⟩ = some (.int .i64 age) ∧ w'.cell? ⟨rb, ri + 1, none⟩ = some (.int .i64 g2)) (first | assumption | exact ⟨p0, p1, p2, p3, p4⟩ | go_keep) (first | (go_at_call 34; refine (HPJ.out _ S5D.out.low).mono ?_; rintro er w6 ⟨pv, rfl, ow6, b6⟩; have y6 := And.intro ((S5D.out.box.under b6).at_ 0) (And.intro ((S5D.out.box.under b6).at_ 1) (And.intro ((S5D.out.box.under b6).at_ 2) (And.intro ((S5D.out.box.under b6).at_ 3) (show w6.cell? ⟨rb, ri + 1, none⟩ = some (.int .i64 g2) from HRW.out w6 (below_trans S5D.out.low b6) 1 _ rfl)))); have S6 := Lib.hid (S5D.out.under b6); have OW6 := Lib.hid ow6; clear ow6 b6))
      have ow6 := OW6.out
      obtain ⟨lo, lc, lb, rfl, sl, hlb⟩ := own_slice2 iC 68 (k := 1) (fun x => rfl) ow6 (fun b len cap i hi w0 => int_index b len cap i hi w0)
      have hix := sl.idx
      have p63 := sl.small
      have hbw : w.heap.size + 1 < (w5.drewN 1).heap.size := S5D.out.rows.lt
      have hcl := fun w9 (g : But (w.heap.size + 1) w6 w9) (k : Nat) x (hx : P[k]? = some x) => (show w9.cell? ⟨lb, 0 + k * 1, none⟩ = some (.int .i64 x) from by
        have hk : k < P.length := by
          rcases Nat.lt_or_ge k P.length with q | q
          · exact q
          · rw [List.getElem?_eq_none q] at hx; cases hx
        exact (World.cell?_of_block (a := ⟨lb, _, none⟩) (g.block lb (sl.lt (by omega)) (by have := hlb (by omega); omega))).trans (sl.at_ k x hx 0 _ rfl))
      have hex := fun (k : Nat) (e : k < P.length) => (show ∃ x, P[k]? = some x ∧ 0 ≤ x ∧ x < (nl : Int) from ⟨_, List.getElem?_eq_getElem e, HPIJ.out _ (List.getElem_mem e)⟩)
      have hus := Lg.upto_succ (fun u => Qt.add u D) P (U j.toNat)
      have hv0 : Lg.upto (fun u => Qt.add u D) P (U j.toNat) 0 = U j.toNat := rfl
      have hvl := fun k => (Lg.upto_len (fun u => Qt.add u D) P (U j.toNat) k).trans (HUL.out j.toNat)
      have hve : Lg.upto (fun u => Qt.add u D) P (U j.toNat) P.length = U (j.toNat + 1) := by rw [Lg.upto, List.take_length]; exact HUU.out.symm
      obtain ⟨V, hV⟩ : ∃ f, Lg.upto (fun u => Qt.add u D) P (U j.toNat) = f := ⟨_, rfl⟩
      rw [hV] at hus hv0 hvl hve
      obtain ⟨pl, hpl⟩ : ∃ n, P.length = n := ⟨_, rfl⟩
      rw [hpl] at hix p63 hex hve ⊢
      obtain ⟨zp, hzp⟩ : ∃ z : Int, (pl : Int) = z := ⟨_, rfl⟩
      have V6 := Lib.hid (show OfSo w #[.slice an nl cn, .slice ah lh ch, .int .i64 half, .int .i64 age] (V 0) w6 from by rw [hv0]; exact S6.out)
      have HIX := Lib.hid hix; have HCL := Lib.hid hcl; have HEX := Lib.hid hex; have HUS := Lib.hid hus; have HVL := Lib.hid hvl; have HVE := Lib.hid hve
      clear hix hcl hex hus hv0 hvl hve hV hpl sl hlb ow6 OW6 y6 S6 S5D S5 p0 p1 p2 p3 p4 hbw HUU HPIJ HPJ
      go_wp2_with fail
      go_hide hQ
      go_loopw [8] (fun i wr => ∃ (k : Int), i = .int .i64 k ∧ 0 ≤ k ∧ k ≤ zp ∧ Hid (OfSo w #[.slice an nl cn, .slice ah lh ch, .int .i64 half, .int .i64 age] (V k.toNat) wr ∧ But (w.heap.size + 1) w6 wr)) (fun i _ => (zp - intOf i).toNat)
      case atStart => exact ⟨0, rfl, by omega, by omega, V6.out, But.refl _ _⟩
      case round =>
        obtain ⟨k, rfl, hk0, hkz, hd⟩ := hrel
        by_cases hltk : k < zp
        · obtain ⟨x, hx, hx0, hx1⟩ := HEX.out k.toNat (by omega)
          have hii := HIX.out k.toNat (by omega)
          rw [show ((k.toNat : Nat) : Int) = k by omega] at hii
          have so := hd.out.1
          have hb3 := hd.out.2
          have hcell := fun w9 (g : Below wr.heap.size wr w9) => HCL.out w9 (hb3.trans (But.of_below g)) k.toNat x hx
          obtain ⟨oj, hoj⟩ : ∃ n, 0 + k.toNat * 1 = n := ⟨_, rfl⟩
          simp only [hoj] at hii hcell
          have hus := HUS.out k.toNat x hx
          have hxi := vec_idx (w.heap.size + 1) nl nl x.toNat (by omega)
          rw [show ((x.toNat : Nat) : Int) = x by omega] at hxi
          have hr := (row_sl so.rows (by rw [HVL.out]; omega) nl).at_ x.toNat _ (ath_get (by rw [HVL.out]; omega))
          have hth := fun w9 (g : Below wr.heap.size wr w9) => row_there (so.rows.under g) x.toNat (by rw [HVL.out]; omega)
          obtain ⟨y, hy⟩ : ∃ y, Qt.ath (V k.toNat) x = y := ⟨_, rfl⟩
          rw [hy] at hr hus
          have hadd := fun w9 => HADD.out y w9
          obtain ⟨z, hz⟩ : ∃ z, Qt.add y D = z := ⟨_, rfl⟩
          rw [hz] at hus
          simp only [hz] at hadd
          have fin := fun w9 (g : Below wr.heap.size wr w9) => row_set3 (so.rows.under g) x.toNat z (by rw [HVL.out]; omega)
          simp only [hus] at fin
          obtain ⟨oi, hoi⟩ : ∃ n, 0 + x.toNat * 3 = n := ⟨_, rfl⟩
          simp only [hoi] at hxi hr hth fin
          obtain ⟨y1, y2, y3⟩ := y
          obtain ⟨z1, z2, z3⟩ := z
          have hde := HDE.out
          obtain ⟨D1, D2, D3⟩ := D
          simp only [V3.c] at hr hadd fin hde
          have hrr := fun w9 (g : Below wr.heap.size wr w9) => (show w9.rangeAt (w.heap.size + 1) oi [.int .i64 y1, .int .i64 y2, .int .i64 y3] from fun i q hq => (g.cell (p := ⟨w.heap.size + 1, _, none⟩) so.rows.lt).trans (hr i q hq))
          have hrg := fun w9 (g : Below wr.heap.size wr w9) => (show w9.rangeAt rb ri [.int .i64 g1, .int .i64 g2, .int .i64 g3, .int .i64 gx, .int .i64 gy, .int .i64 gz, .int .i64 g4, .int .i64 g5, .int .i64 g6] from fun i q hq => HRW.out w9 (below_trans so.low g) i q (by
            have hi9 : i < 9 := by
              rcases Nat.lt_or_ge i 9 with q9 | q9
              · exact q9
              · rw [List.getElem?_eq_none (by simpa using q9)] at hq; cases hq
            rw [← hq]
            have hc : i = 0 ∨ i = 1 ∨ i = 2 ∨ i = 3 ∨ i = 4 ∨ i = 5 ∨ i = 6 ∨ i = 7 ∨ i = 8 := by omega
            rcases hc with rfl | rfl | rfl | rfl | rfl | rfl | rfl | rfl | rfl <;> rfl))
          have full := fun w9 (gb : Below wr.heap.size wr w9) => (show OfSo w #[.slice an nl cn, .slice ah lh ch, .int .i64 half, .int .i64 age] (V (k.toNat + 1)) (w9.setCells (w.heap.size + 1) oi [.int .i64 z1, .int .i64 z2, .int .i64 z3]) from by
            have kb := but_set3 w9 (w.heap.size + 1) oi (.int .i64 z1) (.int .i64 z2) (.int .i64 z3)
            have lo9 := below_trans so.low gb
            exact ⟨(so.box.under gb).keep kb (by omega), fin w9 gb, lo9.trans (kb.below (by omega) lo9.size)⟩)
          have fb := fun w9 (g : Below wr.heap.size wr w9) => (hb3.trans (But.of_below g)).trans (but_set3 w9 (w.heap.size + 1) oi (.int .i64 z1) (.int .i64 z2) (.int .i64 z3))
          have hri9 := HI.out
          have HII := Lib.hid hii; have HCE := Lib.hid hcell; have HXI := Lib.hid hxi; have HRR := Lib.hid hrr; have HRG := Lib.hid hrg; have HAD := Lib.hid hadd; have HTH := Lib.hid hth; have FULL := Lib.hid full; have FB := Lib.hid fb; have HDD := Lib.hid hde
          clear hii hcell hxi hr hrr hrg hadd hth fin full fb hus hy hz hoi hoj hx so hb3 hd hde hri9
          go_wp2_with fail
          refine region_quiet_tail 20 (fun w9 => Below wr.heap.size wr w9) (by kernel_rfl) (by kernel_rfl) (below_drewN (Below.refl _ _) 1) ?_
          simp only [List.take_succ_cons, List.take_zero, List.drop_succ_cons, List.drop_zero]
          repeat (first
            | (go_big_quiet_skip)
            | (with_reducible refine quiet_index 68 _ _ _ _ _ (fun w0 => HII.out w0) rfl rfl rfl ?_ ?_; (focus kernel_rfl); simp only [Act.put, List.setIfInBounds_toArray, List.set_cons_zero, List.set_cons_succ])
            | (with_reducible refine quiet_index 41 _ _ _ _ _ (fun w0 => HXI.out w0) rfl rfl rfl ?_ ?_; (focus kernel_rfl); simp only [Act.put, List.setIfInBounds_toArray, List.set_cons_zero, List.set_cons_succ])
            | (with_reducible refine quiet_index 48 _ _ _ _ _ (fun w0 => HI.out w0) rfl rfl rfl ?_ ?_; (focus kernel_rfl); simp only [Act.put, List.setIfInBounds_toArray, List.set_cons_zero, List.set_cons_succ])
            | (refine quiet_cell _ _ 3 _ _ HCE.out rfl rfl ?_ Try.underlying3 rfl ?_; (focus kernel_rfl); simp only [Act.put, List.setIfInBounds_toArray, List.set_cons_zero, List.set_cons_succ])
            | (refine quiet_mid (w.heap.size + 1) oi _ 35 _ _ HRR.out rfl rfl ?_ Try.underlying35 rfl ?_ ?_; (focus kernel_rfl); (focus kernel_rfl); simp only [Act.put, List.setIfInBounds_toArray, List.set_cons_zero, List.set_cons_succ])
            | (refine quiet_mid rb ri _ 71 _ _ HRG.out rfl rfl ?_ Try.underlying71 rfl ?_ ?_; (focus kernel_rfl); (focus kernel_rfl); simp only [Act.put, List.setIfInBounds_toArray, List.set_cons_zero, List.set_cons_succ])
            | (go_big_quiet_step ((intro g2; first
              | (with_reducible rfl)
              | (with_reducible exact quiet_below g2 (HDD.out _))
              | (with_reducible exact quiet_below g2 (HAD.out _))))))
          refine wpQuiet_nil ?_
          intro w9 g9
          have TH9 := Lib.hid (HTH.out w9 g9); have F9 := Lib.hid (FULL.out w9 g9); have B9 := Lib.hid (FB.out w9 g9)
          clear g9 HII HCE HXI HRR HRG HAD HTH FULL FB HDD
          go_wp2_with (first | (refine wpList_store_mid rfl 35 _ _ rfl (w.heap.size + 1) oi #[.int .i64 z1, .int .i64 z2, .int .i64 z3] rfl rfl TH9.out vec_len (one_cells z1 z2 z3) ?_) | fail)
          go_roundw
          case rel => exact ⟨k + 1, rfl, by omega, by omega, by rw [show (k + 1).toNat = k.toNat + 1 by omega]; exact ⟨F9.out, B9.out⟩⟩
          case measure => simp [intOf]; omega
        · have so := hd.out.1
          rw [show k.toNat = pl by omega, HVE.out] at so
          have FIN := Lib.hid so
          clear so hd
          subst hQ
          go_wp2_with fail
          go_roundw
          case rel => exact ⟨j + 1, rfl, by omega, by omega, by rw [show (j + 1).toNat = j.toNat + 1 by omega]; exact FIN.out⟩
          case measure => simp [intOf]; omega
    · have hs := hd.out
      rw [HUE.out j (by have := HZR.out; omega)] at hs
      have S := Lib.hid hs
      clear hd hs
      go_wp2_with fail
      go_ret
      exact ⟨rfl, S.out.rows, S.out.low⟩

end Go.Proofs.Ytkaikekibmgmmaa
