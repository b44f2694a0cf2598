/- A record that is torn: the statement's walk, over a journal that keeps its contracts. -/
import Derived.Test.YtcjpednhefeboaaJT
namespace Go.Proofs.Ytcjpednhefeboaa
open Go.RowKit
set_option linter.unusedVariables false

/-- The one letter y. -/
def Jn.y1 : ByteArray := ⟨#[121]⟩

set_option maxRecDepth 8000 in
set_option maxHeartbeats 4000000 in
theorem JournalTorn_walk (C : JC) (s : ByteArray) (kp : Int) {w : World} {ao : Option Addr} {len cap bb oo : Nat} {S : Nat → ByteArray} (l : Lst w ao len cap bb oo S) (hb : ∀ i, i < len → (S i).size ≤ 140737488351232) :
    Calls Try.prog 6 #[.slice ao len cap, .string s, .int .i64 kp] w (RetBelow (.bool true) w) := by
  have a := Lib.hid (jAwake_any C)
  have cf := Lib.hid (tFew_any l hb)
  have L := Lib.hid l
  clear l hb
  obtain ⟨z, hz⟩ : ∃ z : Int, (s.size : Int) = z := ⟨_, rfl⟩
  go_enter Try.func6, Try.ntmps6
  go_wp2_with fail
  refine cf.out.mono ?_
  rintro e w1 ⟨⟨b, rfl, hfew⟩, rfl⟩
  clear cf
  rcases b with _ | _
  · clear hfew
    go_wp2_with fail
    refine (a.out _).mono ?_
    rintro e w1 ⟨rfl, g⟩
    have G := Lib.hid g; clear g
    go_wp2_with fail
    go_ret
    exact ⟨rfl, G.out⟩
  have h60 := (hfew rfl).2
  have hwt := Lib.hid (hfew rfl).1
  clear hfew
  by_cases hzb : 16384 < z
  · go_wp2_with fail
    refine (a.out _).mono ?_
    rintro e w1 ⟨rfl, g⟩
    have G := Lib.hid g; clear g
    go_wp2_with fail
    go_ret
    exact ⟨rfl, G.out⟩
  have c := Lib.hid (New_any (F := fun k => k < w.heap.size) 1048576 w (fun _ h => h))
  have hss : Hid (s.size ≤ 16384) := Lib.hid (by omega)
  go_wp2_with fail
  refine c.out.mono ?_
  rintro e w1 ⟨rfl, h1, g1⟩
  rw [Jn.full_none] at h1
  have co := C.open_ h1
  have hsd := Jn.full_scan [] (by simp)
  rw [hsd.1, hsd.2] at co
  have CO := Lib.hid co; have G1 := Lib.hid g1
  clear co hsd h1 g1 c
  go_wp2_with fail
  refine CO.out.mono ?_
  rintro e w2 ⟨j, ga, gc, rfl, j2, t2, hj2, hn2, k2⟩
  have R2 : Hid (Run C w w2 j w.heap.size none 0 []) := Lib.hid ⟨C.mono j2 (G := fun _ => False) (Keeps.refl _ _) (fun _ q => q.elim) (fun q hq => hq.elim (fun h => .inl (.inl h)) fun h => (by cases h)), Gath.none_ _ _, G1.out.trans (k2.below fun _ h => h), (by simp), (by decide)⟩
  clear j2 t2 hj2 hn2 k2 CO
  simp only [List.length_nil]
  go_wp2_with fail
  go_loopw [10, 11] (fun v i wr => ∃ (k : Nat) (ts : List ByteArray) (go : Option Addr) (gc : Nat), k ≤ len ∧ i = .int .i64 k ∧ v = .slice go ts.length gc ∧ ts.length ≤ k ∧ Hid ((Jn.frames ts).size ≤ weight S k + 7 * k) ∧ Hid (Run C w wr j w.heap.size go gc ts)) (fun _ i _ => len - (intOf i).toNat)
  case atStart => exact ⟨0, [], none, 0, Nat.zero_le _, rfl, rfl, Nat.le_refl _, (Nat.le_trans (by decide : (Jn.frames []).size ≤ 0) (Nat.zero_le _)), R2⟩
  case round =>
    obtain ⟨k, ts, go, gc, hk, rfl, rfl, htl, hfs, hd⟩ := hrel
    clear R2
    by_cases hlt : k < len
    · have hidx := L.out.idx k hlt
      have hcell := (L.out.below hd.out.g).at0 k hlt
      obtain ⟨x, hx⟩ : ∃ x, S k = x := ⟨_, rfl⟩
      rw [hx] at hcell
      have ca := C.append hd.out.a x (by omega)
      have hcell2 : ∀ w2, Keeps (fun q => q < w.heap.size ∨ rowOf go q) _ w2 → w2.cell? ⟨bb, oo + k, none⟩ = some (.string x) := fun w2 g => (World.cell?_of_block (g.block bb (.inl (L.out.lt (by omega))))).trans hcell
      have hw1 : weight S (k + 1) = weight S k + (1 + x.size) := by rw [← hx]; rfl
      have HW := Lib.hid hw1
      clear hx hw1
      rcases Jn.app_full ts hd.out.sz x with ⟨hv, hx1, hd', hsz⟩ | ⟨hv, hd'⟩
      · rw [hv, hd'] at ca
        have CA := Lib.hid ca; have HC := Lib.hid hcell2; have hfz : (Jn.frames (ts ++ [x])).size = (Jn.frames ts).size + (x.size + 8) := by rw [Jn.frames_snoc, ByteArray.size_append, Cr.frame_size]
        have E := Lib.hid (And.intro hx1 hsz); have HZ := Lib.hid hfz
        clear ca hcell2 hv hd' hx1 hsz hfz
        go_wp2_with fail
        refine CA.out.mono ?_
        rintro e w3 ⟨rfl, a3, k3⟩
        have hcell3 := HC.out w3 k3
        have hr3 := hd.out.r.kept k3.size fun g hg => k3.block g (.inr hg)
        obtain ⟨go', gc', w4, hrun, r4, z4, b4, n4, o4, p4, q4⟩ := gath_push hr3 (Nat.le_trans hd.out.g.size k3.size) (by omega) x
        have R4 : Hid (Run C w w4 j w.heap.size go' gc' (ts ++ [x])) := Lib.hid (hd.out.push a3 k3 E.out.1 E.out.2 r4 z4 b4 n4 o4 p4 q4)
        clear a3 k3 hr3 r4 z4 b4 n4 o4 p4 q4 CA HC E
        go_wp2_with (at_builtin; refine wpList_append_at rfl _ _ _ _ rfl _ _ _ _ rfl rfl hrun ?_)
        go_roundw
        case rel => exact ⟨k + 1, ts ++ [x], go', gc', by omega, by go_num, by rw [List.length_append]; rfl, by rw [List.length_append]; simp only [List.length_cons, List.length_nil]; omega, Lib.hid (by have := HZ.out; have := HW.out; have := hfs.out; omega), R4⟩
        case measure => simp [intOf]; omega
      · obtain ⟨v, hv'⟩ : ∃ v, (Jn.app (Jn.full ts) ts.length x).1 = v := ⟨_, rfl⟩
        rw [hv'] at ca hv
        rw [hd'] at ca
        have hv0 : (v == 0) = false := by simpa using hv
        have CA := Lib.hid ca
        clear ca hcell2 hv' hd' hv
        go_wp2_with fail
        refine CA.out.mono ?_
        rintro e w3 ⟨rfl, a3, k3⟩
        have R3 : Hid (Run C w w3 j w.heap.size go gc ts) := Lib.hid (hd.out.same a3 k3)
        clear a3 k3 CA
        go_wp2_with fail
        go_roundw
        case rel => exact ⟨k + 1, ts, go, gc, by omega, by go_num, rfl, by omega, Lib.hid (by have := HW.out; have := hfs.out; omega), R3⟩
        case measure => simp [intOf]; omega
    · have hkl : k = len := by omega
      subst hkl
      have hfz : (Jn.frames ts).size ≤ 60420 := by have := hfs.out; have := hwt.out; omega
      have hfr : Cr.frm s = Cr.frame s := by unfold Cr.frm; rw [if_pos hss.out]
      have hzf := Cr.frame_size s
      have hcr := fun (w0 : World) => rFrame_any s w0
      rw [hfr] at hcr
      have hwo := Jn.write_ok ts (Cr.frame s) (by have := hss.out; omega)
      have hct := Jn.crash_torn ts (Cr.frame s) kp
      have hwh := Jn.torn_whole ts s kp
      have hts := Jn.torn_scan ts hd.out.small s hss.out kp
      obtain ⟨f, hf⟩ : ∃ f, Cr.frame s = f := ⟨_, rfl⟩
      rw [hf] at hcr hwo hct hwh hts hzf
      have HCR := Lib.hid hcr; have HWO := Lib.hid hwo; have HCT := Lib.hid hct; have HWH := Lib.hid hwh; have HTS := Lib.hid hts; have HFZ := Lib.hid hfz
      clear hcr hwo hct hwh hts hfz hfr hf hfs
      go_wp2_with fail
      refine (HCR.out _).mono ?_
      rintro e w3 ⟨rfl, g3⟩
      have a3 := C.mono hd.out.a (G := fun _ => False) (Keeps.of_below g3 fun _ hk => hk.1) (fun _ q => q.elim) (fun q hq => .inl hq)
      have hr3 := hd.out.r.kept g3.size fun g hg => g3.block g (hd.out.r.lt g hg).2
      have G3 : Hid (Gath w3 w.heap.size go gc ts ∧ Below w.heap.size w w3) := Lib.hid ⟨hr3, hd.out.g.trans (g3.mono hd.out.g.size)⟩
      have cw := Write_any (C.disk a3) f
      rw [HWO.out.2, if_neg HWO.out.1] at cw
      have CW := Lib.hid cw
      clear a3 hr3 g3 cw HCR
      go_wp2_with fail
      refine CW.out.mono ?_
      rintro e w4 ⟨rfl, h4, k4⟩
      have cc := Crash_any h4 kp
      rw [HCT.out] at cc
      have CC := Lib.hid cc
      have G4 : Hid (Gath w4 w.heap.size go gc ts ∧ Below w.heap.size w w4) := Lib.hid ⟨G3.out.1.kept k4.size fun g hg => k4.block g (.inr hg), G3.out.2.trans (k4.below fun _ h => .inl h)⟩
      clear h4 k4 cc CW G3
      go_wp2_with fail
      refine CC.out.mono ?_
      rintro e w5 ⟨rfl, h5, k5⟩
      have G5 : Hid (Gath w5 w.heap.size go gc ts ∧ Below w.heap.size w w5) := Lib.hid ⟨G4.out.1.kept k5.size fun g hg => k5.block g (.inr hg), G4.out.2.trans (k5.below fun _ h => .inl h)⟩
      have H5 := Lib.hid h5
      clear h5 k5 CC G4
      by_cases hkp : (f.size : Int) ≤ kp
      · have h5 := H5.out
        rw [HWH.out hkp] at h5
        obtain ⟨go', gc', w6, hrun, r6, z6, b6, n6, o6, p6, q6⟩ := gath_push G5.out.1 G5.out.2.size (by omega) s
        have hus : (ts ++ [s]).length = ts.length + 1 := by rw [List.length_append]; rfl
        have a6 : At w6 (fun q => q < w.heap.size ∨ rowOf go' q) w.heap.size (Jn.full (ts ++ [s])) := h5.mono (G := rowOf go) ⟨o6, p6, q6, z6, fun q hq => b6 q hq.1 hq.2⟩ (fun q hq => .inr hq) _ fun q hq => hq.elim (fun h => .inl (.inl h)) fun h => (n6 q h).imp .inr id
        have hsm : ∀ t ∈ ts ++ [s], t.size ≤ 16384 := fun t ht => (List.mem_append.1 ht).elim (hd.out.small t) fun q => by simp only [List.mem_singleton] at q; subst q; exact hss.out
        have co := C.open_ a6
        have hsd := Jn.full_scan (ts ++ [s]) hsm
        rw [hsd.1, hsd.2] at co
        have HSY : Hid (∀ t ∈ (ts ++ [s]) ++ [Jn.y1], t.size ≤ 16384) := Lib.hid fun t ht => (List.mem_append.1 ht).elim (hsm t) fun q => by simp only [List.mem_singleton] at q; subst q; decide +kernel
        have HFU : Hid ((Jn.frames (ts ++ [s])).size ≤ 80000) := Lib.hid (by rw [Jn.frames_snoc, ByteArray.size_append, Cr.frame_size]; have := HFZ.out; have := hss.out; omega)
        have hlt5 := G5.out.1.lt
        have G6 : Hid (Gath w6 w.heap.size go' gc' (ts ++ [s]) ∧ Below w.heap.size w w6) := Lib.hid ⟨r6, G5.out.2.trans ⟨o6, p6, q6, z6, fun q hq => b6 q (Nat.lt_of_lt_of_le hq G5.out.2.size) fun e => by have := (hlt5 q e).1; omega⟩⟩
        have CO := Lib.hid co
        clear co hsd a6 hsm h5 H5 G5 r6 z6 b6 n6 o6 p6 q6 hlt5 HWO HCT HWH HTS HFZ hd
        go_wp2_with (at_builtin; refine wpList_append_at rfl _ _ _ _ rfl _ _ _ _ rfl rfl hrun ?_)
        obtain ⟨us, hus'⟩ : ∃ us, ts ++ [s] = us := ⟨_, rfl⟩
        rw [hus'] at CO HSY HFU G6 hus
        rw [← hus]
        have hul : us.length ≤ 61 := by omega
        clear hus' hrun hus
        go_wp2_with fail
        refine CO.out.mono ?_
        rintro e w7 ⟨jb, gb, cb, rfl, j7, t7, hj7, hn7, k7⟩
        have hr7 := G6.out.1.kept k7.size fun g hg => k7.block g (.inr hg)
        obtain ⟨bx, lx, _⟩ := t7.lst
        obtain ⟨by', ly, _⟩ := (hr7.texts (by omega)).lst
        have cs := Same_any lx ly
        rw [decide_eq_true rfl] at cs
        have ca := fun n => C.append (C.mono j7 (G := fun _ => False) (K := fun q => q < w.heap.size ∨ rowOf go' q) ((Keeps.refl _ _).drewN n) (fun _ q => q.elim) (fun q hq => .inl (.inl hq))) Jn.y1 (by omega)
        rw [Jn.app_ok us Jn.y1 (by decide +kernel) (by have := HFU.out; have : Jn.y1.size = 1 := rfl; omega)] at ca
        have G7 : Hid (Gath w7 w.heap.size go' gc' us ∧ Below w.heap.size w w7) := Lib.hid ⟨hr7, G6.out.2.trans (k7.below fun _ h => .inl h)⟩
        have CS := Lib.hid cs; have CA := Lib.hid ca
        clear cs ca lx ly j7 t7 hj7 hn7 k7 hr7 CO G6
        simp only
        go_wp2_with fail
        refine CS.out.mono ?_
        rintro e w8 ⟨rfl, n8, rfl⟩
        clear CS
        go_wp2_with fail
        refine (CA.out n8).mono ?_
        rintro e w9 ⟨rfl, j9, k9⟩
        have co := C.open_ (C.disk j9)
        have hsd := Jn.full_scan (us ++ [Jn.y1]) HSY.out
        rw [hsd.1, hsd.2] at co
        have CO := Lib.hid co
        have G9 : Hid (Gath w9 w.heap.size go' gc' us ∧ Below w.heap.size w w9) := Lib.hid ⟨G7.out.1.kept k9.size fun g hg => k9.block g (.inr hg), (below_drewN G7.out.2 n8).trans (k9.below fun _ h => .inl h)⟩
        clear co hsd j9 k9 CA G7
        go_wp2_with fail
        refine CO.out.mono ?_
        rintro e w10 ⟨jc, gm, cm, rfl, j10, t10, hj10, hn10, k10⟩
        have hr10 := G9.out.1.kept k10.size fun g hg => k10.block g (.inr hg)
        obtain ⟨gx, cx, w11, hrun1, r11, g11⟩ := gath_copy hr10 (by omega)
        obtain ⟨gy, cy, w12, hrun2, r12, z12, b12, n12, o12, p12, q12⟩ := gath_push r11 g11.size (by omega) Jn.y1
        have hrun2' : (Builtin.append_ #[23, 23] 23 #[.slice gx us.length cx, .slice (some ⟨w11.heap.size, 0, none⟩) 1 1]).run Try.prog (w11.alloc (.cells #[.string ⟨#[121]⟩] 9)) = .ok (.slice gy (us.length + 1) cy) w12 := hrun2
        have hlt11 := r11.lt
        have t12 : Texts w12 gm cm (us ++ [Jn.y1]) := t10.kept (by have := g11.size; omega) fun g e hl => (b12 g (Nat.lt_of_lt_of_le hl g11.size) fun hrow => by have := (hlt11 g hrow).1; omega).trans (g11.block g hl)
        obtain ⟨bx, lx, _⟩ := t12.lst
        obtain ⟨by', ly, _⟩ := (r12.texts (by rw [List.length_append]; simp only [List.length_cons, List.length_nil]; omega)).lst
        have cs := Same_any lx ly
        rw [decide_eq_true rfl, List.length_append] at cs
        have CS := Lib.hid cs
        have G12 : Hid (Below w.heap.size w w12) := Lib.hid ((G9.out.2.trans (k10.below fun _ h => .inl h)).trans ((g11.mono (Nat.le_trans G9.out.2.size k10.size)).trans ⟨o12, p12, q12, z12, fun q hq => b12 q (by have := G9.out.2.size; have := k10.size; have := g11.size; omega) fun e => by have := (hlt11 q e).1; have := G9.out.2.size; have := k10.size; omega⟩))
        clear cs lx ly j10 t10 hj10 hn10 k10 hr10 r11 g11 r12 z12 b12 n12 o12 p12 q12 t12 hrun2 CO G9 hlt11
        simp only [List.length_append, List.length_cons, List.length_nil, Nat.zero_add]
        go_wp2_with (first | (at_builtin; refine wpList_append_at rfl _ _ _ _ rfl _ _ _ _ rfl rfl hrun1 ?_) | (at_builtin; refine wpList_append_at rfl _ _ _ _ rfl _ _ _ _ rfl rfl hrun2' ?_) | fail)
        refine CS.out.mono ?_
        rintro e w13 ⟨rfl, n13, rfl⟩
        go_wp2_with fail
        refine (a.out _).mono ?_
        rintro e w14 ⟨rfl, g⟩
        have G := Lib.hid ((below_drewN G12.out n13).trans (g.mono G12.out.size)); clear g
        go_wp2_with fail
        go_ret
        exact ⟨rfl, G.out⟩
      · have hsd := HTS.out (by omega)
        have co := C.open_ H5.out
        rw [hsd.1, hsd.2] at co
        have HSY : Hid (∀ t ∈ ts ++ [Jn.y1], t.size ≤ 16384) := Lib.hid fun t ht => (List.mem_append.1 ht).elim (hd.out.small t) fun q => by simp only [List.mem_singleton] at q; subst q; decide +kernel
        have HFU : Hid ((Jn.frames ts).size ≤ 80000) := Lib.hid (by have := HFZ.out; omega)
        have G6 := G5
        have CO := Lib.hid co
        clear co hsd H5 G5 HWO HCT HWH HTS HFZ hd
        go_wp2_with fail
        refine CO.out.mono ?_
        rintro e w7 ⟨jb, gb, cb, rfl, j7, t7, hj7, hn7, k7⟩
        have hr7 := G6.out.1.kept k7.size fun g hg => k7.block g (.inr hg)
        obtain ⟨bx, lx, _⟩ := t7.lst
        obtain ⟨by', ly, _⟩ := (hr7.texts (by omega)).lst
        have cs := Same_any lx ly
        rw [decide_eq_true rfl] at cs
        have ca := fun n => C.append (C.mono j7 (G := fun _ => False) (K := fun q => q < w.heap.size ∨ rowOf go q) ((Keeps.refl _ _).drewN n) (fun _ q => q.elim) (fun q hq => .inl (.inl hq))) Jn.y1 (by omega)
        rw [Jn.app_ok ts Jn.y1 (by decide +kernel) (by have := HFU.out; have : Jn.y1.size = 1 := rfl; omega)] at ca
        have G7 : Hid (Gath w7 w.heap.size go gc ts ∧ Below w.heap.size w w7) := Lib.hid ⟨hr7, G6.out.2.trans (k7.below fun _ h => .inl h)⟩
        have CS := Lib.hid cs; have CA := Lib.hid ca
        clear cs ca lx ly j7 t7 hj7 hn7 k7 hr7 CO G6
        simp only
        go_wp2_with fail
        refine CS.out.mono ?_
        rintro e w8 ⟨rfl, n8, rfl⟩
        clear CS
        go_wp2_with fail
        refine (CA.out n8).mono ?_
        rintro e w9 ⟨rfl, j9, k9⟩
        have co := C.open_ (C.disk j9)
        have hsd := Jn.full_scan (ts ++ [Jn.y1]) HSY.out
        rw [hsd.1, hsd.2] at co
        have CO := Lib.hid co
        have G9 : Hid (Gath w9 w.heap.size go gc ts ∧ Below w.heap.size w w9) := Lib.hid ⟨G7.out.1.kept k9.size fun g hg => k9.block g (.inr hg), (below_drewN G7.out.2 n8).trans (k9.below fun _ h => .inl h)⟩
        clear co hsd j9 k9 CA G7
        go_wp2_with fail
        refine CO.out.mono ?_
        rintro e w10 ⟨jc, gm, cm, rfl, j10, t10, hj10, hn10, k10⟩
        have hr10 := G9.out.1.kept k10.size fun g hg => k10.block g (.inr hg)
        obtain ⟨gx, cx, w11, hrun1, r11, g11⟩ := gath_copy hr10 (by omega)
        obtain ⟨gy, cy, w12, hrun2, r12, z12, b12, n12, o12, p12, q12⟩ := gath_push r11 g11.size (by omega) Jn.y1
        have hrun2' : (Builtin.append_ #[23, 23] 23 #[.slice gx ts.length cx, .slice (some ⟨w11.heap.size, 0, none⟩) 1 1]).run Try.prog (w11.alloc (.cells #[.string ⟨#[121]⟩] 9)) = .ok (.slice gy (ts.length + 1) cy) w12 := hrun2
        have hlt11 := r11.lt
        have t12 : Texts w12 gm cm (ts ++ [Jn.y1]) := t10.kept (by have := g11.size; omega) fun g e hl => (b12 g (Nat.lt_of_lt_of_le hl g11.size) fun hrow => by have := (hlt11 g hrow).1; omega).trans (g11.block g hl)
        obtain ⟨bx, lx, _⟩ := t12.lst
        obtain ⟨by', ly, _⟩ := (r12.texts (by rw [List.length_append]; simp only [List.length_cons, List.length_nil]; omega)).lst
        have cs := Same_any lx ly
        rw [decide_eq_true rfl, List.length_append] at cs
        have CS := Lib.hid cs
        have G12 : Hid (Below w.heap.size w w12) := Lib.hid ((G9.out.2.trans (k10.below fun _ h => .inl h)).trans ((g11.mono (Nat.le_trans G9.out.2.size k10.size)).trans ⟨o12, p12, q12, z12, fun q hq => b12 q (by have := G9.out.2.size; have := k10.size; have := g11.size; omega) fun e => by have := (hlt11 q e).1; have := G9.out.2.size; have := k10.size; omega⟩))
        clear cs lx ly j10 t10 hj10 hn10 k10 hr10 r11 g11 r12 z12 b12 n12 o12 p12 q12 t12 hrun2 CO G9 hlt11
        simp only [List.length_append, List.length_cons, List.length_nil, Nat.zero_add]
        go_wp2_with (first | (at_builtin; refine wpList_append_at rfl _ _ _ _ rfl _ _ _ _ rfl rfl hrun1 ?_) | (at_builtin; refine wpList_append_at rfl _ _ _ _ rfl _ _ _ _ rfl rfl hrun2' ?_) | fail)
        refine CS.out.mono ?_
        rintro e w13 ⟨rfl, n13, rfl⟩
        go_wp2_with fail
        refine (a.out _).mono ?_
        rintro e w14 ⟨rfl, g⟩
        have G := Lib.hid ((below_drewN G12.out n13).trans (g.mono G12.out.size)); clear g
        go_wp2_with fail
        go_ret
        exact ⟨rfl, G.out⟩

end Go.Proofs.Ytcjpednhefeboaa
