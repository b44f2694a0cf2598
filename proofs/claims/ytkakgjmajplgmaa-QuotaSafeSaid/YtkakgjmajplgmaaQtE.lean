/- The plain answer's Nominal. -/
import Derived.Test.YtkakgjmajplgmaaQtD
namespace Go.Proofs.Ytkakgjmajplgmaa
open Go.RowKit
set_option linter.unusedVariables false

theorem vec_idx (b len cap i : Nat) (hi : i < len) (w0 : World) : (Instr.indexAt 26 (.slice (some ⟨b, 0, none⟩) len cap) (.int .i64 (i : Int))).run Try.prog w0 = .ok (.pointer (some ⟨b, 0 + i * 3, none⟩)) w0 := by
  have e : (⟨b, 0, none⟩ : Addr).add (i * 3) = ⟨b, 0 + i * 3, none⟩ := by unfold Addr.add; split <;> simp_all
  have h : (0 : Int) ≤ (i : Int) ∧ (i : Int) < (len : Int) := by omega
  simp [Instr.indexAt, run_underlying Try.underlying26, asIntOf, hi, e]
theorem vec_info : (Try.prog.info? 29).map (fun i => (i.zero, i.size, i.bytes)) = some (some (.agg (⟨0, 0, 0⟩ : V3).c), 3, 24) := by kernel_rfl
theorem V3.one (n : V3) : ∀ u ∈ n.c.toList, u.oneCell' = true := by
  intro u hu
  simp only [V3.c, List.mem_cons, List.not_mem_nil, or_false] at hu
  rcases hu with rfl | rfl | rfl <;> rfl
theorem vec_append (w : World) (base : Nat) (v : Value) (l : List V3) (x : V3) (hl : l.length ≤ 100) (g : Nat) (hown : w.ownsRow base 29 3 v l.length (cellsOf V3.c l)) (hg : Row w g x.c 29) (hb : base ≤ w.heap.size) :
    ∃ v' w', (Builtin.append_ #[26, 26] 26 #[v, .slice (some ⟨g, 0, none⟩) 1 1]).run Try.prog w = .ok v' w' ∧ w'.ownsRow base 29 3 v' (l ++ [x]).length (cellsOf V3.c (l ++ [x])) ∧ w.grownBy w' v.ownBlock := by
  obtain ⟨i0, hi, hz0, hz1, hz2⟩ := info_parts vec_info
  obtain ⟨v', w', h1, h2, h3, _⟩ := run_append_own (P := Try.prog) w base 26 26 29 i0 _ 3 24 Try.underlying26 hi hz0 hz1 hz2 rfl (by decide) v l.length (cellsOf V3.c l) hown ⟨g, 0, none⟩ 1 1 x.c.toList rfl
    (fun j u hu => by
      rw [Addr.add_mid, Nat.zero_add, hg.at_]
      simpa using hu) x.one (by unfold maxLen; omega) (by omega) hb
  refine ⟨v', w', h1, ?_, h3⟩
  rw [cellsOf_snoc, List.length_append]
  exact h2
theorem range_sub {w : World} {b o : Nat} {l : List Value} (h : w.rangeAt b o l) (k : Nat) (l' : List Value) (hl : ∀ j v, l'[j]? = some v → l[k + j]? = some v) : w.rangeAt b (o + k) l' := fun j v hj => by
  rw [Nat.add_assoc]
  exact h _ v (hl j v hj)
theorem nom_range {w : World} {b o : Nat} {x : Nd} (h : w.rangeAt b o x.c.toList) : w.rangeAt b (o + 2) [.int .i64 x.nom.x, .int .i64 x.nom.y, .int .i64 x.nom.z] := range_sub h 2 _ (by
  intro j v hj
  rcases j with _ | _ | _ | j
  · exact hj
  · exact hj
  · exact hj
  · simp at hj)
theorem bor_range {w : World} {b o : Nat} {x : Nd} (h : w.rangeAt b o x.c.toList) : w.rangeAt b (o + 5) [.int .i64 x.bor.x, .int .i64 x.bor.y, .int .i64 x.bor.z] := range_sub h 5 _ (by
  intro j v hj
  rcases j with _ | _ | _ | j
  · exact hj
  · exact hj
  · exact hj
  · simp at hj)

structure NmSo (ns : List Nd) (w : World) (C4 : Array Value) (j : Int) (v : Value) (wr : World) : Prop where
  row : wr.ownsRow (w.heap.size + 2) 29 3 v ((ns.map (·.nom)).take j.toNat).length (cellsOf V3.c ((ns.map (·.nom)).take j.toNat))
  box : Row wr w.heap.size C4 25
  res : Row wr (w.heap.size + 1) #[.int .i64 0, .int .i64 0, .int .i64 0] 29
  low : Below w.heap.size w wr

set_option maxHeartbeats 1000000 in
set_option maxRecDepth 8000 in
theorem rNominal_any (ns : List Nd) (an ah : Option Addr) (cn nb no hl ch : Nat) (ha ag n : Int) (w : World) (hN : Sl Nd.c 22 11 w an cn nb no ns) (h12 : ns.length ≤ 12) :
    Calls Try.prog 15 #[.agg #[.slice an ns.length cn, .slice ah hl ch, .int .i64 ha, .int .i64 ag], .int .i64 n] w (RetBelow (.agg (Qt.nominal ns n).c) w) := by
  have hsum := fun w2 (g : Below w.heap.size w w2) ao cp lb lo hU => rSum_any ns (ns.map (·.nom)) an ah ao cn nb no hl ch cp lb lo ha ag n w2 (hN.kept g) h12 hU
  have hnom : Qt.sum ns n (ns.map (·.nom)) = Qt.nominal ns n := rfl
  rw [hnom] at hsum
  obtain ⟨S, hS⟩ : ∃ s, Qt.nominal ns n = s := ⟨_, rfl⟩
  rw [hS] at hsum ⊢
  have hNi := hN.idx
  have n63 := hN.small
  have g0 := two_below w (.cells #[.slice an ns.length cn, .slice ah hl ch, .int .i64 ha, .int .i64 ag] 25) (.cells #[.int .i64 0, .int .i64 0, .int .i64 0] 29)
  have rA := (Row.new w #[.slice an ns.length cn, .slice ah hl ch, .int .i64 ha, .int .i64 ag] 25).under ((Below.refl _ _).alloc (Nat.le_refl _) (.cells #[.int .i64 0, .int .i64 0, .int .i64 0] 29))
  have rB := Row.new (w.alloc (.cells #[.slice an ns.length cn, .slice ah hl ch, .int .i64 ha, .int .i64 ag] 25)) #[.int .i64 0, .int .i64 0, .int .i64 0] 29
  rw [World.size_alloc] at rB
  have so0 : NmSo ns w #[.slice an ns.length cn, .slice ah hl ch, .int .i64 ha, .int .i64 ag] 0 (.slice none 0 0) ((w.alloc (.cells #[.slice an ns.length cn, .slice ah hl ch, .int .i64 ha, .int .i64 ag] 25)).alloc (.cells #[.int .i64 0, .int .i64 0, .int .i64 0] 29)) := ⟨World.ownsRow_nil _ _ _ _, rA, rB, g0⟩
  have hml : (ns.map (·.nom)).length = ns.length := by simp
  have hmi : ∀ (k : Nat) x, ns[k]? = some x → (ns.map (·.nom)).take (k + 1) = (ns.map (·.nom)).take k ++ [x.nom] := fun k x hx => by
    rw [List.take_add_one, List.getElem?_map, hx]
    rfl
  obtain ⟨M, hM⟩ : ∃ m, ns.map (·.nom) = m := ⟨_, rfl⟩
  obtain ⟨nl, hnl⟩ : ∃ n, ns.length = n := ⟨_, rfl⟩
  rw [hM] at hsum hml hmi
  rw [hnl] at hsum hNi n63 so0 hml h12 ⊢
  obtain ⟨zn, hzn⟩ : ∃ z : Int, (nl : Int) = z := ⟨_, rfl⟩
  have z12 : zn ≤ 12 := by omega
  have HSUM := Lib.hid hsum; have HNI := Lib.hid hNi; have HN := Lib.hid hN; have HL := Lib.hid (And.intro hnl hzn); have S0 := Lib.hid so0; have HML := Lib.hid hml; have HMI := Lib.hid hmi; have HM := Lib.hid hM
  clear hsum hNi hN hnl so0 hml hmi hM g0 rA rB hnom hS h12
  go_enter Try.func15, Try.ntmps15
  go_wp2_with fail
  go_loopw [5, 6] (fun vv i wr => ∃ (j : Int), i = .int .i64 j ∧ 0 ≤ j ∧ j ≤ zn ∧ Hid (NmSo ns w #[.slice an nl cn, .slice ah hl ch, .int .i64 ha, .int .i64 ag] j vv wr)) (fun _ i _ => (zn - intOf i).toNat)
  case atStart => exact ⟨0, rfl, by omega, by omega, S0.out⟩
  case round =>
    obtain ⟨j, rfl, hj0, hjz, hd⟩ := hrel
    obtain ⟨ao, ln, cp, rfl⟩ := own_form hd.out.row
    have k0 : wr.cell? ⟨w.heap.size, 0, none⟩ = some (.slice an nl cn) := hd.out.box.at_ 0
    by_cases hlt : j < zn
    · obtain ⟨x, hx⟩ : ∃ x, ns[j.toNat]? = some x := ⟨_, List.getElem?_eq_getElem (by have := HL.out; omega)⟩
      have hi := HNI.out j.toNat (by have := HL.out; omega)
      rw [show ((j.toNat : Nat) : Int) = j by omega] at hi
      have hr := nom_range ((HN.out.from (Nat.le_refl _) hd.out.low).at_ j.toNat x hx)
      have hst := HMI.out j.toNat x hx
      obtain ⟨oi, hoi⟩ : ∃ n, no + j.toNat * 11 = n := ⟨_, rfl⟩
      rw [hoi] at hi hr
      obtain ⟨v1, hv1⟩ : ∃ v, x.nom = v := ⟨_, rfl⟩
      rw [hv1] at hr hst
      obtain ⟨x1, x2, x3⟩ := v1
      simp only at hr
      have hrow := hd.out.row
      rw [HM.out] at hrow
      have hb : w.heap.size + 2 ≤ (wr.alloc (.cells #[.int .i64 x1, .int .i64 x2, .int .i64 x3] 29)).heap.size := by have := hd.out.res.lt; rw [World.size_alloc]; omega
      obtain ⟨v', w3, hrun, own3, gr3⟩ := vec_append (wr.alloc (.cells #[.int .i64 x1, .int .i64 x2, .int .i64 x3] 29)) (w.heap.size + 2) (.slice ao ln cp) (M.take j.toNat) ⟨x1, x2, x3⟩ (by rw [List.length_take]; omega) wr.heap.size (World.ownsRow.alloc hrow _) (Row.new wr _ _) hb
      obtain ⟨ao', ln', cp', rfl⟩ := own_form own3
      have al := (Below.refl wr.heap.size wr).alloc (Nat.le_refl wr.heap.size) (.cells #[.int .i64 x1, .int .i64 x2, .int .i64 x3] 29)
      have box3 := Row.grown (hd.out.box.under al) gr3 (own_low hrow (by omega))
      have res3 := Row.grown (hd.out.res.under al) gr3 (own_low hrow (by omega))
      have low3 : Below w.heap.size w w3 := Below.grown (hd.out.low.alloc hd.out.low.size _) gr3 (by omega) (fun k hk => by have := (hrow.lt k hk).1; omega)
      have FIN := Lib.hid (show NmSo ns w #[.slice an nl cn, .slice ah hl ch, .int .i64 ha, .int .i64 ag] (j + 1) (.slice ao' ln' cp') w3 from ⟨by rw [HM.out, show (j + 1).toNat = j.toNat + 1 by omega, hst]; exact own3, box3, res3, low3⟩)
      have HRUN := Lib.hid hrun; have HR := Lib.hid hr
      clear hx hst hoi hv1 hrow hb hrun own3 gr3 al box3 res3 low3 hd hr
      go_wp2_with (first
        | (refine wpList_load_mid rfl 29 _ rfl nb (oi + 2) rfl _ _ HR.out Try.underlying29 rfl vec_len ?_)
        | (at_builtin; refine wpList_append_by rfl _ _ _ _ rfl _ _ _ _ rfl rfl HRUN.out ?_)
        | fail)
      go_roundw
      case rel => exact ⟨j + 1, rfl, by omega, by omega, FIN.out⟩
      case measure => simp [intOf]; omega
    · have hrow := hd.out.row
      rw [HM.out, List.take_of_length_le (by rw [HML.out]; have := HL.out; omega)] at hrow
      obtain ⟨ao3, cp3, bb, hv, sl⟩ := own_slice V3.c 26 (k := 3) (fun x => rfl) hrow (fun b len cap i hi w0 => vec_idx b len cap i hi w0)
      have hc := HSUM.out wr hd.out.low ao3 cp3 bb 0 sl
      rw [← hv] at hc
      have k1 : wr.cell? ⟨w.heap.size, 1, none⟩ = some (.slice ah hl ch) := hd.out.box.at_ 1
      have k2 : wr.cell? ⟨w.heap.size, 2, none⟩ = some (.int .i64 ha) := hd.out.box.at_ 2
      have k3 : wr.cell? ⟨w.heap.size, 3, none⟩ = some (.int .i64 ag) := hd.out.box.at_ 3
      have HC := Lib.hid hc; have HR := Lib.hid hd.out.res; have HLW := Lib.hid hd.out.low
      clear hrow hv sl hc hd
      go_wp2_with fail
      refine HC.out.mono ?_
      rintro er w2 ⟨rfl, b2⟩
      have R2 := Lib.hid (HR.out.under b2); have L2 := Lib.hid (HLW.out.trans (b2.mono HLW.out.size))
      clear b2 k0 k1 k2 k3
      obtain ⟨s1, s2, s3⟩ := S
      simp only [V3.c]
      go_wp2_with (first | (refine wpList_store_row rfl 29 _ _ rfl (w.heap.size + 1) #[.int .i64 s1, .int .i64 s2, .int .i64 s3] rfl rfl _ _ R2.out vec_len rfl (one_cells s1 s2 s3) ?_) | fail)
      refine bodyPost_ret (results_cell_row (p := 4) (by kernel_rfl) _ _ (w.heap.size + 1) _ _ _ _ rfl (R2.out.setRow _) Try.underlying29 rfl vec_len) rfl ?_
      exact ⟨rfl, below_setRow3 L2.out (by omega) _⟩

end Go.Proofs.Ytkakgjmajplgmaa
