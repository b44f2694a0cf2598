/- The plain answer's Below, Sum, Nominal. -/
import Derived.Test.YtkakgjmajplgmaaQtC
import Derived.Test.YtkakgjmajplgmaaCmdT
namespace Go.Proofs.Ytkakgjmajplgmaa
open Go.RowKit
set_option linter.unusedVariables false

theorem own_slice2 {α : Type} (enc : α → Array Value) (T : TypeId) {e : TypeId} {k : Nat} (hk : ∀ x, (enc x).size = k) {w : World} {base : Nat} {v : Value} {l : List α} (h : w.ownsRow base e k v l.length (cellsOf enc l))
    (hT : ∀ (b len cap i : Nat), i < len → ∀ w0 : World, (Instr.indexAt T (.slice (some ⟨b, 0, none⟩) len cap) (.int .i64 (i : Int))).run Try.prog w0 = .ok (.pointer (some ⟨b, 0 + i * k, none⟩)) w0) :
    ∃ (ao : Option Addr) (cap bb : Nat), v = .slice ao l.length cap ∧ Sl enc T k w ao cap bb 0 l ∧ (0 < l.length → base ≤ bb) := by
  rcases h.2 with ⟨rfl, hn⟩ | ⟨g, cap, cur, rfl, hb, hg, hnc, hm, hs, ht⟩
  · obtain ⟨ao, cp, bb, e1, sl⟩ := own_slice enc T hk h hT
    exact ⟨ao, cp, bb, e1, sl, fun h0 => by omega⟩
  · refine ⟨some ⟨g, 0, none⟩, cap, g, rfl, ⟨by unfold maxLen at hm; omega, fun _ => lt_of_block hg, fun i hi w0 => hT g l.length cap i hi w0, fun i x hx j v hj => ?_⟩, fun _ => hb⟩
    rw [cell_of_row _ _ _ _ _ _ hg, Nat.zero_add]
    have hc := cellsOf_at enc k hk l i x j v hx hj
    rw [← ht] at hc
    have hlt : i * k + j < l.length * k := by
      rcases Nat.lt_or_ge (i * k + j) (l.length * k) with q | q
      · exact q
      · rw [List.getElem?_eq_none (by rw [List.length_take]; omega)] at hc; cases hc
    rw [List.getElem?_take_of_lt hlt] at hc
    simpa using hc

theorem cfg_row' {w : World} {g : Nat} {cs : Array Value} {t : TypeId} (h : Row w g cs t) {w' : World} (k : Below w.heap.size w w') : ∃ t fr, w'.heap[g]? = some (.cells cs t fr) := ⟨t, (0, 0), h.under k⟩
theorem vec_row' {w : World} {g : Nat} {cs : Array Value} {t : TypeId} (h : Row w g cs t) {w' : World} (k : Below w.heap.size w w') : ∃ t fr, w'.heap[g]? = some (.cells cs t fr) := ⟨t, (0, 0), h.under k⟩

/-- Tenants below a node, so far. -/
def Qt.belowTo (ns : List Nd) (n : Int) (j : Nat) : List Int := ((Cf.leaves ns).take j).filter fun t => Qt.on ns n t
theorem Qt.belowTo_succ (ns : List Nd) (n : Int) (j : Nat) (x : Int) (h : (Cf.leaves ns)[j]? = some x) : Qt.belowTo ns n (j + 1) = if Qt.on ns n x = true then Qt.belowTo ns n j ++ [x] else Qt.belowTo ns n j := by
  unfold Qt.belowTo
  rw [List.take_add_one, h, List.filter_append]
  simp only [Option.toList_some]
  split
  · rename_i h; simp [h]
  · rename_i h; simp [h]
theorem Qt.belowTo_few (ns : List Nd) (n : Int) (j : Nat) : (Qt.belowTo ns n j).length ≤ ns.length := by
  unfold Qt.belowTo Cf.leaves
  refine Nat.le_trans (List.length_filter_le _ _) (Nat.le_trans (by rw [List.length_take]; exact Nat.min_le_right _ _) (Nat.le_trans (List.length_filter_le _ _) ?_))
  simp
theorem Qt.belowTo_all (ns : List Nd) (n : Int) (j : Nat) (h : (Cf.leaves ns).length ≤ j) : Qt.belowTo ns n j = Qt.below ns n := by
  unfold Qt.belowTo Qt.below
  rw [List.take_of_length_le h]
structure BwSo (ns : List Nd) (n : Int) (w1 : World) (j : Int) (v : Value) (wr : World) : Prop where
  row : wr.ownsRow w1.heap.size 3 1 v (Qt.belowTo ns n j.toNat).length (cellsOf iC (Qt.belowTo ns n j.toNat))
  low : Below w1.heap.size w1 wr

set_option maxHeartbeats 1000000 in
set_option maxRecDepth 8000 in
theorem rBelow_any (ns : List Nd) (an ah : Option Addr) (cn nb no hl ch : Nat) (ha ag n : Int) (w : World) (hN : Sl Nd.c 22 11 w an cn nb no ns) (h12 : ns.length ≤ 12) :
    Calls Try.prog 27 #[.agg #[.slice an ns.length cn, .slice ah hl ch, .int .i64 ha, .int .i64 ag], .int .i64 n] w fun e w' => ∃ v, e = .returned v ∧ w'.ownsRow (w.heap.size + 1) 3 1 v (Qt.below ns n).length (cellsOf iC (Qt.below ns n)) ∧ Below w.heap.size w w' := by
  have hon := fun w2 (g : Below w.heap.size w w2) t => rOn_any ns an ah cn nb no hl ch ha ag n t w2 (hN.kept g) h12
  have hlv := fun w2 (g : Below w.heap.size w w2) => rLeaves_any ns an ah cn nb no hl ch ha ag w2 (hN.kept g) h12
  have hsu := fun j x h => Qt.belowTo_succ ns n j x h
  have hfw := fun j => Qt.belowTo_few ns n j
  have hal := fun j h => Qt.belowTo_all ns n j h
  have so0 := fun w1 => (⟨World.ownsRow_nil _ _ _ _, Below.refl _ _⟩ : BwSo ns n w1 0 (.slice none 0 0) w1)
  obtain ⟨L, hL⟩ : ∃ l, Cf.leaves ns = l := ⟨_, rfl⟩
  rw [hL] at hlv hsu hal
  have r0 := Row.new w #[.slice an ns.length cn, .slice ah hl ch, .int .i64 ha, .int .i64 ag] 25
  have g0 : Below w.heap.size w (w.alloc (.cells #[.slice an ns.length cn, .slice ah hl ch, .int .i64 ha, .int .i64 ag] 25)) := (Below.refl _ _).alloc (Nat.le_refl _) _
  obtain ⟨nl, hnl⟩ : ∃ n, ns.length = n := ⟨_, rfl⟩
  rw [hnl] at hon hlv r0 g0 hfw h12 ⊢
  have HON := Lib.hid hon; have HLV := Lib.hid hlv; have HSU := Lib.hid hsu; have HFW := Lib.hid (And.intro h12 hfw); have HAL := Lib.hid hal; have SO := Lib.hid so0; have R0 := Lib.hid r0; have G0 := Lib.hid g0
  clear hon hlv hsu hfw hal so0 r0 g0 hL hN hnl h12
  go_enter Try.func27, Try.ntmps27
  go_wp2_with fail
  refine (HLV.out _ G0.out).mono ?_
  rintro er w1 ⟨v, rfl, ow, b1⟩
  obtain ⟨ao, cp, bb, rfl, sl⟩ := own_slice iC 36 (k := 1) (fun x => rfl) ow (fun b len cap i hi w0 => int_index b len cap i hi w0)
  have hix := sl.idx
  have n63 := sl.small
  obtain ⟨pl, hpl⟩ : ∃ n, L.length = n := ⟨_, rfl⟩
  have HSL := Lib.hid sl
  rw [hpl] at hix n63 ⊢
  obtain ⟨zp, hzp⟩ : ∃ z : Int, (pl : Int) = z := ⟨_, rfl⟩
  have HX := Lib.hid hix; have HPL := Lib.hid (And.intro hpl hzp); have R1 := Lib.hid (R0.out.under b1); have G1 := Lib.hid (below_trans G0.out b1); have S1 := Lib.hid (SO.out w1)
  clear hix hpl sl ow b1
  go_wp2_with fail
  go_loopw [5, 7] (fun vv i wr => ∃ (j : Int), i = .int .i64 j ∧ 0 ≤ j ∧ j ≤ zp ∧ Hid (BwSo ns n w1 j vv wr)) (fun _ i _ => (zp - intOf i).toNat)
  case atStart => exact ⟨0, rfl, by omega, by omega, S1.out⟩
  case round =>
    obtain ⟨j, rfl, hj0, hjz, hd⟩ := hrel
    obtain ⟨ao2, ln2, cp2, rfl⟩ := own_form hd.out.row
    by_cases hlt : j < zp
    · obtain ⟨x, hx⟩ : ∃ x, L[j.toNat]? = some x := ⟨_, List.getElem?_eq_getElem (by have := HPL.out; omega)⟩
      have hi := HX.out j.toNat (by have := HPL.out; omega)
      rw [show ((j.toNat : Nat) : Int) = j by omega] at hi
      have hs := HSU.out j.toNat x hx
      have hcl := fun w2 (g : Below wr.heap.size wr w2) => (HSL.out.kept (below_trans hd.out.low g)).at_ j.toNat x hx 0 _ rfl
      simp only [Nat.add_zero] at hcl
      obtain ⟨oi, hoi⟩ : ∃ n, 0 + j.toNat * 1 = n := ⟨_, rfl⟩
      rw [hoi] at hi hcl
      obtain ⟨F, hF⟩ : ∃ f, Qt.on ns n x = f := ⟨_, rfl⟩
      have GR := Lib.hid (G1.out.trans (hd.out.low.mono G1.out.size))
      have hc := fun w2 (g : Below wr.heap.size wr w2) => HON.out w2 (below_trans GR.out g) x
      simp only [hF] at hc
      rw [hF] at hs
      have rr := fun w2 (g : Below wr.heap.size wr w2) => cfg_row' (R1.out.under hd.out.low) g
      have HI := Lib.hid hi; have HC := Lib.hid hc; have HCL := Lib.hid hcl; have HS := Lib.hid hs; have HD := Lib.hid hd.out
      clear hi hc hcl hs hx hoi hF hd
      go_wp2_with fail
      refine region_quiet (fun w2 => Below wr.heap.size wr w2) (by kernel_rfl) (by kernel_rfl) (below_drewN (Below.refl _ _) 1) ?_
      repeat (first
        | (go_big_quiet_skip)
        | (refine quiet_row _ _ 25 _ _ rr rfl rfl ?_ Try.underlying25 rfl ?_ ?_; (focus kernel_rfl); (focus kernel_rfl); simp only [Act.put, List.setIfInBounds_toArray, List.set_cons_zero, List.set_cons_succ])
        | (with_reducible refine quiet_index 36 _ _ _ _ _ (fun w0 => HI.out w0) rfl rfl rfl ?_ ?_; (focus kernel_rfl); simp only [Act.put, List.setIfInBounds_toArray, List.set_cons_zero, List.set_cons_succ])
        | (refine quiet_cell _ _ 3 _ _ HCL.out rfl rfl ?_ Try.underlying3 rfl ?_; (focus kernel_rfl); simp only [Act.put, List.setIfInBounds_toArray, List.set_cons_zero, List.set_cons_succ])
        | (go_big_quiet_step ((intro g2; first
          | (with_reducible rfl)
          | (with_reducible exact quiet_below g2 (HC.out _ g2))))))
      refine wpQuiet_nil ?_
      intro w2 g2
      have row2 := Lib.hid (own_keep HD.out.row (But.of_below (b := w.heap.size) g2) (own_low HD.out.row (by have := R1.out.lt; omega)))
      have low2 := Lib.hid (HD.out.low.trans (g2.mono HD.out.low.size))
      have c2 : w2.cell? ⟨bb, oi, none⟩ = some (.int .i64 x) := HCL.out w2 g2
      have hi := HI.out
      clear g2 rr HC HCL HD
      cases F
      · have hs := HS.out
        rw [if_neg (by simp)] at hs
        have HS' := Lib.hid hs
        clear hs HS
        go_wp2_with fail
        go_roundw
        case rel => exact ⟨j + 1, rfl, by omega, by omega, by rw [show (j + 1).toNat = j.toNat + 1 by omega, HS'.out]; exact row2.out, low2.out⟩
        case measure => simp [intOf]; omega
      · have hs := HS.out
        rw [if_pos rfl] at hs
        have HS' := Lib.hid hs
        have hb : w1.heap.size ≤ (w2.alloc (.cells #[.int .i64 x] 3)).heap.size := by have := low2.out.size; rw [World.size_alloc]; omega
        obtain ⟨v', w3, hrun, own3, gr3⟩ := int_append (w2.alloc (.cells #[.int .i64 x] 3)) w1.heap.size (.slice ao2 ln2 cp2) (Qt.belowTo ns n j.toNat) x (by have := HFW.out.1; have := HFW.out.2 j.toNat; omega) w2.heap.size (World.ownsRow.alloc row2.out _) (Row.new w2 _ _) hb
        obtain ⟨ao', ln', cp', rfl⟩ := own_form own3
        have low3 : Below w1.heap.size w1 w3 := Below.grown (low2.out.alloc low2.out.size _) gr3 hb (fun k hk => (row2.out.lt k hk).1)
        have HRUN := Lib.hid hrun; have OWN3 := Lib.hid own3; have LOW3 := Lib.hid low3
        clear hs hb hrun own3 gr3 low3 HS
        go_wp2_with (first | (at_builtin; refine wpList_append_by rfl _ _ _ _ rfl _ _ _ _ rfl rfl HRUN.out ?_) | fail)
        go_roundw
        case rel => exact ⟨j + 1, rfl, by omega, by omega, by rw [show (j + 1).toNat = j.toNat + 1 by omega, HS'.out]; exact OWN3.out, LOW3.out⟩
        case measure => simp [intOf]; omega
    · have hfin : Hid (wr.ownsRow (w.heap.size + 1) 3 1 (.slice ao2 ln2 cp2) (Qt.below ns n).length (cellsOf iC (Qt.below ns n)) ∧ Below w.heap.size w wr) := Lib.hid (by
        have h := hd.out.row
        rw [HAL.out j.toNat (by have := HPL.out; omega)] at h
        exact ⟨own_base h (by have := R1.out.lt; omega), G1.out.trans (hd.out.low.mono G1.out.size)⟩)
      clear hd
      go_wp2_with fail
      go_ret
      exact ⟨_, rfl, hfin.out⟩

/-- Sums, so far. -/
theorem Qt.sumL_snoc (l : List V3) : ∀ (r : List Int) (v : V3) (b : Int), Qt.sumL l v (r ++ [b]) = Qt.add (Qt.sumL l v r) (Qt.ath l b)
  | [], v, b => rfl
  | c :: r, v, b => Qt.sumL_snoc l r _ b
def Qt.sumTo (l : List V3) (r : List Int) (j : Nat) : V3 := Qt.sumL l Qt.z3 (r.take j)
theorem Qt.sumTo_succ (l : List V3) (r : List Int) (j : Nat) (b : Int) (h : r[j]? = some b) : Qt.sumTo l r (j + 1) = Qt.add (Qt.sumTo l r j) (Qt.ath l b) := by
  unfold Qt.sumTo
  rw [List.take_add_one, h]
  exact Qt.sumL_snoc _ _ _ _
structure SmSo (w : World) (C4 : Array Value) (x : V3) (w1 wr : World) : Prop where
  v : Row wr (w.heap.size + 2) x.c 29
  res : Row wr (w.heap.size + 1) #[.int .i64 0, .int .i64 0, .int .i64 0] 29
  low : Below w.heap.size w wr
  but : But (w.heap.size + 2) w1 wr

set_option maxHeartbeats 1000000 in
set_option maxRecDepth 8000 in
theorem rSum_any (ns : List Nd) (l : List V3) (an ah ao : Option Addr) (cn nb no hl ch cp lb lo : Nat) (ha ag n : Int) (w : World) (hN : Sl Nd.c 22 11 w an cn nb no ns) (h12 : ns.length ≤ 12) (hU : Sl V3.c 26 3 w ao cp lb lo l) :
    Calls Try.prog 14 #[.agg #[.slice an ns.length cn, .slice ah hl ch, .int .i64 ha, .int .i64 ag], .int .i64 n, .slice ao l.length cp] w (RetBelow (.agg (Qt.sum ns n l).c) w) := by
  have hbl := fun w2 (g : Below w.heap.size w w2) => rBelow_any ns an ah cn nb no hl ch ha ag n w2 (hN.kept g) h12
  have hat := fun w2 (g : Below w.heap.size w w2) b => rAt3 l ao cp lb lo b w2 (hU.kept g)
  have hsu := fun r j b h => Qt.sumTo_succ l r j b h
  have hsum : Qt.sum ns n l = Qt.sumL l Qt.z3 (Qt.below ns n) := rfl
  obtain ⟨L, hL⟩ : ∃ l, Qt.below ns n = l := ⟨_, rfl⟩
  rw [hL] at hbl hsum
  have hall : Qt.sumTo l L L.length = Qt.sum ns n l := by rw [hsum, Qt.sumTo, List.take_length]
  obtain ⟨S, hS⟩ : ∃ s, Qt.sum ns n l = s := ⟨_, rfl⟩
  rw [hS] at hall ⊢
  have hz0 : Qt.sumTo l L 0 = Qt.z3 := rfl
  obtain ⟨f, hf⟩ : ∃ f : Nat → V3, Qt.sumTo l L = f := ⟨_, rfl⟩
  obtain ⟨u, hu⟩ : ∃ u : Int → V3, Qt.ath l = u := ⟨_, rfl⟩
  have hsu' := hsu L
  rw [hf, hu] at hsu'
  rw [hf] at hall hz0
  simp only [hu] at hat
  have n63 := hN.small; have l63 := hU.small
  obtain ⟨nl, hnl⟩ : ∃ n, ns.length = n := ⟨_, rfl⟩
  obtain ⟨ll, hll⟩ : ∃ n, l.length = n := ⟨_, rfl⟩
  rw [hnl] at hbl n63 ⊢
  rw [hll] at hat l63 ⊢
  have g0 : Below w.heap.size w (((w.alloc (.cells #[.slice an nl cn, .slice ah hl ch, .int .i64 ha, .int .i64 ag] 25)).alloc (.cells #[.int .i64 0, .int .i64 0, .int .i64 0] 29)).alloc (.cells #[.int .i64 0, .int .i64 0, .int .i64 0] 29)) := (two_below _ _ _).alloc (two_below _ _ _).size _
  have s1 : ((w.alloc (.cells #[.slice an nl cn, .slice ah hl ch, .int .i64 ha, .int .i64 ag] 25)).alloc (.cells #[.int .i64 0, .int .i64 0, .int .i64 0] 29)).heap.size = w.heap.size + 2 := by rw [World.size_alloc, World.size_alloc]
  have rB : Row ((w.alloc (.cells #[.slice an nl cn, .slice ah hl ch, .int .i64 ha, .int .i64 ag] 25)).alloc (.cells #[.int .i64 0, .int .i64 0, .int .i64 0] 29)) (w.heap.size + 1) #[.int .i64 0, .int .i64 0, .int .i64 0] 29 := by
    have h := Row.new (w.alloc (.cells #[.slice an nl cn, .slice ah hl ch, .int .i64 ha, .int .i64 ag] 25)) #[.int .i64 0, .int .i64 0, .int .i64 0] 29
    rwa [World.size_alloc] at h
  have rC := Row.new ((w.alloc (.cells #[.slice an nl cn, .slice ah hl ch, .int .i64 ha, .int .i64 ag] 25)).alloc (.cells #[.int .i64 0, .int .i64 0, .int .i64 0] 29)) #[.int .i64 0, .int .i64 0, .int .i64 0] 29
  rw [s1] at rC
  have rB' := rB.under ((Below.refl _ _).alloc (Nat.le_refl _) (.cells #[.int .i64 0, .int .i64 0, .int .i64 0] 29))
  have s2 : (((w.alloc (.cells #[.slice an nl cn, .slice ah hl ch, .int .i64 ha, .int .i64 ag] 25)).alloc (.cells #[.int .i64 0, .int .i64 0, .int .i64 0] 29)).alloc (.cells #[.int .i64 0, .int .i64 0, .int .i64 0] 29)).heap.size = w.heap.size + 3 := by rw [World.size_alloc, s1]
  have HBL := Lib.hid hbl; have HAT := Lib.hid hat; have HSU := Lib.hid hsu'; have HALL := Lib.hid hall; have HZ0 := Lib.hid hz0; have G0 := Lib.hid g0; have RB := Lib.hid rB'; have RC := Lib.hid rC; have S2 := Lib.hid s2
  clear hbl hat hsu hsu' hall hz0 g0 rB rB' rC s1 s2 hN hU hsum hL hS hf hu hnl hll h12
  go_enter Try.func14, Try.ntmps14
  go_wp2_with fail
  refine (HBL.out _ G0.out).mono ?_
  rintro er w1 ⟨v, rfl, ow, b1⟩
  rw [S2.out] at ow
  obtain ⟨ao2, cp2, bb, rfl, sl, hbb⟩ := own_slice2 iC 36 (k := 1) (fun x => rfl) ow (fun b len cap i hi w0 => int_index b len cap i hi w0)
  have hix := sl.idx
  have p63 := sl.small
  have so1 : SmSo w #[.slice an nl cn, .slice ah hl ch, .int .i64 ha, .int .i64 ag] (f 0) w1 w1 := ⟨by rw [HZ0.out]; exact RC.out.under b1, RB.out.under b1, below_trans G0.out b1, But.refl _ _⟩
  have hcell : ∀ wr, But (w.heap.size + 2) w1 wr → ∀ (j : Nat) x, L[j]? = some x → wr.cell? ⟨bb, 0 + j * 1, none⟩ = some (.int .i64 x) := fun wr k j x hx => by
    have hj : j < L.length := by
      rcases Nat.lt_or_ge j L.length with q | q
      · exact q
      · rw [List.getElem?_eq_none q] at hx; cases hx
    have h := sl.at_ j x hx 0 _ rfl
    exact (World.cell?_of_block (a := ⟨bb, _, none⟩) (k.block bb (sl.lt (by omega)) (by have := hbb (by omega); omega))).trans h
  obtain ⟨pl, hpl⟩ : ∃ n, L.length = n := ⟨_, rfl⟩
  rw [hpl] at hix p63 ⊢
  obtain ⟨zp, hzp⟩ : ∃ z : Int, (pl : Int) = z := ⟨_, rfl⟩
  have HX := Lib.hid hix; have HPL := Lib.hid (And.intro hpl hzp); have HCELL := Lib.hid hcell; have SO := Lib.hid so1
  clear hix hpl sl ow b1 hbb so1 hcell
  go_wp2_with fail
  go_loopw [9] (fun i wr => ∃ (j : Int), i = .int .i64 j ∧ 0 ≤ j ∧ j ≤ zp ∧ Hid (SmSo w #[.slice an nl cn, .slice ah hl ch, .int .i64 ha, .int .i64 ag] (f j.toNat) w1 wr)) (fun i _ => (zp - intOf i).toNat)
  case atStart => exact ⟨0, rfl, by omega, by omega, SO.out⟩
  case round =>
    obtain ⟨j, rfl, hj0, hjz, hd⟩ := hrel
    by_cases hlt : j < zp
    · obtain ⟨x, hx⟩ : ∃ x, L[j.toNat]? = some x := ⟨_, List.getElem?_eq_getElem (by have := HPL.out; omega)⟩
      have hi := HX.out j.toNat (by have := HPL.out; omega)
      rw [show ((j.toNat : Nat) : Int) = j by omega] at hi
      have hs := HSU.out j.toNat x hx
      have hc0 := HCELL.out wr hd.out.but j.toNat x hx
      obtain ⟨oi, hoi⟩ : ∃ n, 0 + j.toNat * 1 = n := ⟨_, rfl⟩
      rw [hoi] at hi hc0
      have hbr : bb < wr.heap.size := World.block_lt_of_cell? wr _ hc0
      have hcl := fun w2 (g : Below wr.heap.size wr w2) => (g.cell (p := ⟨bb, oi, none⟩) hbr).trans hc0
      have hca := fun w2 (g : Below wr.heap.size wr w2) => HAT.out w2 (below_trans hd.out.low g) x
      obtain ⟨y, hy⟩ : ∃ y, u x = y := ⟨_, rfl⟩
      rw [hy] at hs
      simp only [hy] at hca
      have hv := hd.out.v
      obtain ⟨sv, hsv⟩ : ∃ y, f j.toNat = y := ⟨_, rfl⟩
      rw [hsv] at hs hv
      have hadd := fun w => rAdd3 sv y w
      obtain ⟨sx, hsx⟩ : ∃ y, f (j.toNat + 1) = y := ⟨_, rfl⟩
      rw [hsx] at hs
      simp only [← hs] at hadd
      obtain ⟨x1, x2, x3⟩ := sv
      obtain ⟨y1, y2, y3⟩ := y
      obtain ⟨s1, s2, s3⟩ := sx
      simp only [V3.c] at hv hca hadd
      have rr := fun w2 (g : Below wr.heap.size wr w2) => vec_row' hv g
      have HI := Lib.hid hi; have HCL := Lib.hid hcl; have HCA := Lib.hid hca; have HADD := Lib.hid hadd; have HSX := Lib.hid hsx; have HV := Lib.hid hv; have HD := Lib.hid hd.out
      clear hi hcl hca hadd hsx hs hc0 hoi hbr hsv hy hx hv hd
      go_wp2_with fail
      refine region_quiet_tail 8 (fun w2 => Below wr.heap.size wr w2) (by kernel_rfl) (by kernel_rfl) (below_drewN (Below.refl _ _) 1) ?_
      simp only [List.take_succ_cons, List.take_zero, List.drop_succ_cons, List.drop_zero]
      repeat (first
        | (go_big_quiet_skip)
        | (refine quiet_row _ _ 29 _ _ rr rfl rfl ?_ Try.underlying29 rfl ?_ ?_; (focus kernel_rfl); (focus kernel_rfl); simp only [Act.put, List.setIfInBounds_toArray, List.set_cons_zero, List.set_cons_succ])
        | (with_reducible refine quiet_index 36 _ _ _ _ _ (fun w0 => HI.out w0) rfl rfl rfl ?_ ?_; (focus kernel_rfl); simp only [Act.put, List.setIfInBounds_toArray, List.set_cons_zero, List.set_cons_succ])
        | (refine quiet_cell _ _ 3 _ _ HCL.out rfl rfl ?_ Try.underlying3 rfl ?_; (focus kernel_rfl); simp only [Act.put, List.setIfInBounds_toArray, List.set_cons_zero, List.set_cons_succ])
        | (go_big_quiet_step ((intro g2; first
          | (with_reducible rfl)
          | (with_reducible exact quiet_below g2 (HCA.out _ g2))
          | (with_reducible exact quiet_below g2 (HADD.out _))))))
      refine wpQuiet_nil ?_
      intro w2 g2
      have v2 := HV.out.under g2
      have k3 : But (w.heap.size + 2) w2 (w2.setRow (w.heap.size + 2) #[.int .i64 s1, .int .i64 s2, .int .i64 s3]) := (But.refl _ _).setRow (.inr rfl) _
      have FIN := Lib.hid (show SmSo w #[.slice an nl cn, .slice ah hl ch, .int .i64 ha, .int .i64 ag] ⟨s1, s2, s3⟩ w1 (w2.setRow (w.heap.size + 2) #[.int .i64 s1, .int .i64 s2, .int .i64 s3]) from
        ⟨v2.setRow _, (HD.out.res.under g2).keep k3 (by omega), below_setRow3 (HD.out.low.trans (g2.mono HD.out.low.size)) (by omega) _, (HD.out.but.trans (But.of_below g2)).trans k3⟩)
      have V2 := Lib.hid v2
      clear g2 v2 k3 rr HCL HCA HADD HV HD HI
      go_wp2_with (first | (refine wpList_store_row rfl 29 _ _ rfl (w.heap.size + 2) #[.int .i64 s1, .int .i64 s2, .int .i64 s3] rfl rfl _ _ V2.out vec_len rfl (one_cells s1 s2 s3) ?_) | fail)
      go_roundw
      case rel => exact ⟨j + 1, rfl, by omega, by omega, by rw [show (j + 1).toNat = j.toNat + 1 by omega, HSX.out]; exact FIN.out⟩
      case measure => simp [intOf]; omega
    · have hv := hd.out.v
      rw [show j.toNat = L.length by have := HPL.out; omega, HALL.out] at hv
      have HR := Lib.hid hd.out.res; have HL := Lib.hid hd.out.low
      clear hd
      obtain ⟨s1, s2, s3⟩ := S
      simp only [V3.c] at hv ⊢
      have HV := Lib.hid hv
      clear hv
      go_wp2_with (first
        | (refine wpList_load_row rfl 29 _ rfl (w.heap.size + 2) rfl _ _ _ _ HV.out Try.underlying29 rfl vec_len ?_)
        | (refine wpList_store_row rfl 29 _ _ rfl (w.heap.size + 1) #[.int .i64 s1, .int .i64 s2, .int .i64 s3] rfl rfl _ _ HR.out vec_len rfl (one_cells s1 s2 s3) ?_)
        | fail)
      refine bodyPost_ret (results_cell_row (p := 6) (by kernel_rfl) _ _ (w.heap.size + 1) _ _ _ _ rfl (HR.out.setRow _) Try.underlying29 rfl vec_len) rfl ?_
      exact ⟨rfl, below_setRow3 HL.out (by omega) _⟩

end Go.Proofs.Ytkakgjmajplgmaa
