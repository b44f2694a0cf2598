/- The landed ledger: what all use; more, less. -/
import Derived.Test.YtkaikekibmgmmaaKlB
import Derived.Test.YtkaikekibmgmmaaZb
namespace Go.Proofs.Ytkaikekibmgmmaa
open Go.RowKit
set_option linter.unusedVariables false

theorem Lg.fill_all {L : List V3} {n : Nat} (h : L.length = n) : Qt.fill L n n = L := by
  refine Lg.list_ath (by rw [Qt.fill_len, h]) (fun b hb => ?_)
  rw [Qt.fill_len] at hb
  have e := Qt.fill_at L n (t := b) (by omega)
  rw [Qt.ath, if_pos (by rw [Qt.fill_len]; omega), List.getD_eq_getElem?_getD, e]
  rfl

structure AlSo (w : World) (U : List V3) (wr : World) : Prop where
  row : Row wr w.heap.size (cellsOf V3.c U).toArray 35
  low : Below w.heap.size w wr

set_option maxHeartbeats 1000000 in
set_option maxRecDepth 8000 in
theorem kAll12 {w : World} {j B r : Nat} {ns : List Nd} {L : List V3} (hA : LmAt w j B r ns L) :
    Calls Try.prog 17 #[.pointer (some ⟨j, 0, none⟩)] w fun e w' => e = .returned (.slice (some ⟨w.heap.size, 0, none⟩) L.length L.length) ∧ Row w' w.heap.size (cellsOf V3.c L).toArray 35 ∧ Below w.heap.size w w' := by
  have h4 := fun w2 (g : Below w.heap.size w w2) => (show w2.cell? ⟨j, 4, none⟩ = some (.map (some r)) from (hA.under g).box.at_ 4)
  have lk := fun (n : Int) w2 (g : Below w.heap.size w w2) => lm_look (hA.under g).mp n
  have q0 : w.cell? ⟨j, 0, none⟩ = some (.slice (some ⟨B, 0, none⟩) ns.length ns.length) := hA.box.at_ 0
  have hlen := hA.len
  have h12 := hA.few
  rw [← hlen] at q0 h12
  have hmk := make_now w L.length h12
  have al := (Below.refl w.heap.size w).alloc (Nat.le_refl _) (.cells (cellsOf V3.c (List.replicate L.length Qt.z3)).toArray 35)
  have rr := Row.new w (cellsOf V3.c (List.replicate L.length Qt.z3)).toArray 35
  have hus := fun (k : Nat) (hk : k < L.length) => Qt.fill_succ L L.length k hk
  have hul := fun k => Qt.fill_len L L.length k
  have hue := Lg.fill_all (L := L) rfl
  have hu0 := Qt.fill_zero L L.length
  obtain ⟨U, hU⟩ : ∃ f, Qt.fill L L.length = f := ⟨_, rfl⟩
  simp only [hU] at hus hul hue hu0
  obtain ⟨nl, hnl⟩ : ∃ n, L.length = n := ⟨_, rfl⟩
  rw [hnl] at q0 hmk al rr hue hu0 h12 ⊢
  simp only [hnl] at hus hul
  have T0 := Lib.hid (show AlSo w (U 0) (w.alloc (.cells (cellsOf V3.c (List.replicate nl Qt.z3)).toArray 35)) from ⟨by rw [hu0]; exact rr, al⟩)
  obtain ⟨zn, hzn⟩ : ∃ z : Int, (nl : Int) = z := ⟨_, rfl⟩
  rw [hzn] at hmk
  have H4 := Lib.hid h4; have LK := Lib.hid lk; have HUS := Lib.hid hus; have HUL := Lib.hid hul; have HUE := Lib.hid hue
  clear h4 lk hus hul hue hu0 hA al rr hlen hnl hU
  go_enter Try.func17, Try.ntmps17
  go_wp2_with fail
  clear hmk q0
  go_loopw [16] (fun i wr => ∃ (k : Int), i = .int .i64 k ∧ 0 ≤ k ∧ k ≤ zn ∧ Hid (AlSo w (U k.toNat) wr)) (fun i _ => (zn - intOf i).toNat)
  case atStart => exact ⟨0, rfl, by omega, by omega, T0.out⟩
  case round =>
    obtain ⟨k, rfl, hk0, hkz, hd⟩ := hrel
    by_cases hlt : k < zn
    · have hbi := vec_idx w.heap.size nl nl k.toNat (by omega)
      rw [show ((k.toNat : Nat) : Int) = k by omega] at hbi
      have q4 := H4.out wr hd.out.low
      have lk := LK.out k wr hd.out.low
      have hus := HUS.out k.toNat (by omega)
      rw [show ((k.toNat : Nat) : Int) = k by omega] at hus
      obtain ⟨u, hu⟩ : ∃ u, Qt.ath L k = u := ⟨_, rfl⟩
      rw [hu] at lk hus
      have hth := row_there hd.out.row k.toNat (by rw [HUL.out]; omega)
      have fin := row_set3 hd.out.row k.toNat u (by rw [HUL.out]; omega)
      rw [hus] at fin
      obtain ⟨oi, hoi⟩ : ∃ n, 0 + k.toNat * 3 = n := ⟨_, rfl⟩
      rw [hoi] at hth fin
      simp only [hoi] at hbi
      obtain ⟨u1, u2, u3⟩ := u
      have kb := but_set3 wr w.heap.size oi (.int .i64 u1) (.int .i64 u2) (.int .i64 u3)
      have S1 := Lib.hid (show AlSo w (U (k.toNat + 1)) (wr.setCells w.heap.size oi [.int .i64 u1, .int .i64 u2, .int .i64 u3]) from ⟨fin, hd.out.low.trans (kb.below (Nat.le_refl _) hd.out.low.size)⟩)
      have XL := Lib.hid lk; have TH := Lib.hid hth
      clear lk hth fin kb hus hu hoi hd
      go_wp2_with (first | (at_lookup; refine wpList_lookup_by rfl 62 _ _ _ rfl _ _ _ rfl rfl XL.out ?_) | (refine wpList_store_mid rfl 35 _ _ rfl w.heap.size oi #[.int .i64 u1, .int .i64 u2, .int .i64 u3] rfl rfl TH.out vec_len (one_cells u1 u2 u3) ?_) | fail)
      go_roundw
      case rel => exact ⟨k + 1, rfl, by omega, by omega, by rw [show (k + 1).toNat = k.toNat + 1 by omega]; exact S1.out⟩
      case measure => simp [intOf]; omega
    · have so := hd.out
      rw [show k.toNat = nl by omega, HUE.out] at so
      have FIN := Lib.hid so
      clear so hd
      go_wp2_with fail
      go_ret
      exact ⟨rfl, FIN.out.row, FIN.out.low⟩

set_option maxHeartbeats 1000000 in
set_option maxRecDepth 8000 in
theorem kTake12 {w : World} {j B r : Nat} {ns : List Nd} {L : List V3} (hA : LmAt w j B r ns L) (t : Int) (v : V3) (ht : In64 t) :
    Calls Try.prog 14 #[.pointer (some ⟨j, 0, none⟩), .int .i64 t, .agg #[.int .i64 v.x, .int .i64 v.y, .int .i64 v.z]] w fun e w' => e = .returned (.int .i64 (Lg.take ns L t v).2) ∧ LmAt w' j B r ns (Lg.take ns L t v).1 ∧ But r w w' := by
  have hcv := fun w2 => kValid3 v w2
  have hlf := fun w2 (h : LmAt w2 j B r ns L) => kIsTenant t h ht
  have hct := fun w2 (h : LmAt w2 j B r ns L) => kCount h t v 36 (fun u => Qt.add u v) (fun _ _ => rfl) (fun u w => kAdd3 u v w)
  have t0 : LcSo w j B r ns v L (w.alloc (.cells #[.int .i64 v.x, .int .i64 v.y, .int .i64 v.z] 35)) := by
    have al := (Below.refl w.heap.size w).alloc (Nat.le_refl w.heap.size) (.cells #[.int .i64 v.x, .int .i64 v.y, .int .i64 v.z] 35)
    exact ⟨hA.under al, Row.new w _ _, But.of_below al⟩
  obtain ⟨R, hR⟩ : ∃ r, Lg.take ns L t v = r := ⟨_, rfl⟩
  obtain ⟨VV, hVV⟩ : ∃ f, Cf.valid v = f := ⟨_, rfl⟩
  obtain ⟨LF, hLF⟩ : ∃ f, Cf.leaf ns t = f := ⟨_, rfl⟩
  obtain ⟨M, hM⟩ : ∃ f, Lg.upd (fun u => Qt.add u v) (Qt.path ns t) L = f := ⟨_, rfl⟩
  have hres := hR
  unfold Lg.take at hres
  rw [hVV, hLF, hM] at hres
  rw [hR]
  simp only [hVV] at hcv
  simp only [hLF] at hlf
  simp only [hM] at hct
  obtain ⟨v1, v2, v3⟩ := v
  simp only at *
  obtain ⟨W, hW⟩ : ∃ x, w.alloc (.cells #[.int .i64 v1, .int .i64 v2, .int .i64 v3] 35) = x := ⟨_, rfl⟩
  rw [hW] at t0
  have p0 : W.cell? ⟨w.heap.size, 0, none⟩ = some (.int .i64 v1) := t0.arg.at_ 0
  have p1 : W.cell? ⟨w.heap.size, 1, none⟩ = some (.int .i64 v2) := t0.arg.at_ 1
  have p2 : W.cell? ⟨w.heap.size, 2, none⟩ = some (.int .i64 v3) := t0.arg.at_ 2
  have HCV := Lib.hid hcv; have HLF := Lib.hid hlf; have HCT := Lib.hid hct; have T0 := Lib.hid t0; have HRES := Lib.hid hres
  clear hcv hlf hct t0 hres hVV hLF hM hR hA ht
  go_enter Try.func14, Try.ntmps14
  go_upto_region 1 with fail
  clear hW
  go_wp2_with fail
  refine (HCV.out _).mono ?_
  rintro er w1 ⟨rfl, b1⟩
  have T1 := Lib.hid (T0.out.under b1)
  clear b1 p0 p1 p2
  cases VV
  · have hr := HRES.out
    rw [if_pos rfl] at hr
    subst hr
    go_wp2_with fail
    go_ret
    exact ⟨rfl, T1.out.led, T1.out.but⟩
  go_wp2_with fail
  refine (HLF.out _ T1.out.led).mono ?_
  rintro er w2 ⟨rfl, b2⟩
  have T2 := Lib.hid (T1.out.under b2)
  clear b2
  cases LF
  · have hr := HRES.out
    rw [if_neg (by decide), if_pos rfl] at hr
    subst hr
    go_wp2_with fail
    go_ret
    exact ⟨rfl, T2.out.led, T2.out.but⟩
  have hr := HRES.out
  rw [if_neg (by decide), if_neg (by decide)] at hr
  subst hr
  have p0 : w2.cell? ⟨w.heap.size, 0, none⟩ = some (.int .i64 v1) := T2.out.arg.at_ 0
  have p1 : w2.cell? ⟨w.heap.size, 1, none⟩ = some (.int .i64 v2) := T2.out.arg.at_ 1
  have p2 : w2.cell? ⟨w.heap.size, 2, none⟩ = some (.int .i64 v3) := T2.out.arg.at_ 2
  go_wp2_with fail
  refine (HCT.out _ T2.out.led).mono ?_
  rintro er w3 ⟨rfl, l3, b3⟩
  have F3 := Lib.hid (And.intro l3 (T2.out.but.trans b3))
  clear l3 b3 p0 p1 p2
  go_wp2_with fail
  go_ret
  exact ⟨rfl, F3.out.1, F3.out.2⟩

set_option maxHeartbeats 1000000 in
set_option maxRecDepth 8000 in
theorem kGive12 {w : World} {j B r : Nat} {ns : List Nd} {L : List V3} (hA : LmAt w j B r ns L) (t : Int) (v : V3) (ht : In64 t) :
    Calls Try.prog 12 #[.pointer (some ⟨j, 0, none⟩), .int .i64 t, .agg #[.int .i64 v.x, .int .i64 v.y, .int .i64 v.z]] w fun e w' => e = .returned (.int .i64 (Lg.give ns L t v).2) ∧ LmAt w' j B r ns (Lg.give ns L t v).1 ∧ But r w w' := by
  have hcv := fun w2 => kValid3 v w2
  have hlf := fun w2 (h : LmAt w2 j B r ns L) => kIsTenant t h ht
  have hub := fun w2 (h : LmAt w2 j B r ns L) => kUsedBy t h ht
  have hct := fun w2 (h : LmAt w2 j B r ns L) => kCount h t v 32 (fun u => Qt.sub u v) (fun _ _ => rfl) (fun u w => kSub3 u v w)
  obtain ⟨u, hu⟩ : ∃ u, (if Cf.leaf ns t = true then Qt.ath L t else Qt.z3) = u := ⟨_, rfl⟩
  simp only [hu] at hub
  have hov := fun w2 => kOver3 v u w2
  have t0 : LcSo w j B r ns v L (w.alloc (.cells #[.int .i64 v.x, .int .i64 v.y, .int .i64 v.z] 35)) := by
    have al := (Below.refl w.heap.size w).alloc (Nat.le_refl w.heap.size) (.cells #[.int .i64 v.x, .int .i64 v.y, .int .i64 v.z] 35)
    exact ⟨hA.under al, Row.new w _ _, But.of_below al⟩
  obtain ⟨R, hR⟩ : ∃ r, Lg.give ns L t v = r := ⟨_, rfl⟩
  obtain ⟨VV, hVV⟩ : ∃ f, Cf.valid v = f := ⟨_, rfl⟩
  obtain ⟨LF, hLF⟩ : ∃ f, Cf.leaf ns t = f := ⟨_, rfl⟩
  obtain ⟨FT, hFT⟩ : ∃ f, Cf.fits v u = f := ⟨_, rfl⟩
  obtain ⟨M, hM⟩ : ∃ f, Lg.upd (fun u => Qt.sub u v) (Qt.path ns t) L = f := ⟨_, rfl⟩
  have hres : (VV = false → R = (L, 1)) ∧ (VV = true → FT = false → R = (L, 1)) ∧ (VV = true → FT = true → LF = false → R = (L, 3)) ∧ (VV = true → FT = true → LF = true → R = (M, 0)) := by
    rw [← hR, Lg.give, hVV, hLF, hM]
    refine ⟨fun h => by rw [if_pos h], fun h1 h2 => ?_, fun h1 h2 h3 => ?_, fun h1 h2 h3 => ?_⟩
    · rw [if_neg (by simp [h1])]
      rw [hLF] at hu
      cases LF
      · rw [if_neg (by decide)] at hu
        rw [if_pos rfl, if_pos (by rw [hu, hFT, h2])]
      · rw [if_pos rfl] at hu
        rw [if_neg (by decide), if_pos (by rw [hu, hFT, h2])]
    · rw [hLF, h3, if_neg (by decide)] at hu
      rw [if_neg (by simp [h1]), if_pos h3, if_neg (by rw [hu, hFT, h2]; decide)]
    · rw [hLF, h3, if_pos rfl] at hu
      rw [if_neg (by simp [h1]), if_neg (by simp [h3]), if_neg (by rw [hu, hFT, h2]; decide)]
  rw [hR]
  simp only [hVV] at hcv
  simp only [hLF] at hlf
  simp only [hM] at hct
  simp only [hFT] at hov
  obtain ⟨u1, u2, u3⟩ := u
  obtain ⟨v1, v2, v3⟩ := v
  simp only [V3.c] at *
  obtain ⟨W, hW⟩ : ∃ x, w.alloc (.cells #[.int .i64 v1, .int .i64 v2, .int .i64 v3] 35) = x := ⟨_, rfl⟩
  rw [hW] at t0
  have pr := fun w2 (g : Below W.heap.size W w2) => (show ∃ t fr, w2.heap[w.heap.size]? = some (.cells #[.int .i64 v1, .int .i64 v2, .int .i64 v3] t fr) from ⟨_, _, t0.arg.under g⟩)
  have hub' := fun w2 (g : Below W.heap.size W w2) => hub w2 (t0.led.under g)
  have HCV := Lib.hid hcv; have HLF := Lib.hid hlf; have HCT := Lib.hid hct; have T0 := Lib.hid t0; have HRES := Lib.hid hres; have HUB := Lib.hid hub'; have HOV := Lib.hid hov; have PR := Lib.hid pr
  clear hcv hlf hct t0 hres hVV hLF hM hR hA ht hub hub' hov hFT hu pr
  go_enter Try.func12, Try.ntmps12
  go_upto_region 1 with fail
  clear hW
  cases VV
  · have hr := HRES.out.1 rfl
    subst hr
    refine region_quiet (fun w2 => Below W.heap.size W w2) (by kernel_rfl) (by kernel_rfl) (below_drewN (Below.refl _ _) 1) ?_
    repeat (first
      | (go_big_quiet_skip)
      | (refine quiet_row _ _ 35 _ _ PR.out rfl rfl ?_ Try.underlying35 rfl ?_ ?_; (focus kernel_rfl); (focus kernel_rfl); simp only [Act.put, List.setIfInBounds_toArray, List.set_cons_zero, List.set_cons_succ])
      | (go_big_quiet_step ((intro g2; first
        | (with_reducible rfl)
        | (with_reducible exact quiet_below g2 (HCV.out _))))))
    refine wpQuiet_nil ?_
    intro w1 b1
    have T1 := Lib.hid (T0.out.under b1)
    clear b1
    go_wp2_with fail
    go_ret
    exact ⟨rfl, T1.out.led, T1.out.but⟩
  cases FT
  · have hr := HRES.out.2.1 (by simp) (by simp)
    subst hr
    refine region_quiet (fun w2 => Below W.heap.size W w2) (by kernel_rfl) (by kernel_rfl) (below_drewN (Below.refl _ _) 1) ?_
    repeat (first
      | (go_big_quiet_skip)
      | (refine quiet_row _ _ 35 _ _ PR.out rfl rfl ?_ Try.underlying35 rfl ?_ ?_; (focus kernel_rfl); (focus kernel_rfl); simp only [Act.put, List.setIfInBounds_toArray, List.set_cons_zero, List.set_cons_succ])
      | (go_big_quiet_step ((intro g2; first
        | (with_reducible rfl)
        | (with_reducible exact quiet_below g2 (HCV.out _))
        | (with_reducible exact quiet_below g2 (HUB.out _ g2))
        | (with_reducible exact quiet_below g2 (HOV.out _))))))
    refine wpQuiet_nil ?_
    intro w1 b1
    have T1 := Lib.hid (T0.out.under b1)
    clear b1
    go_wp2_with fail
    go_ret
    exact ⟨rfl, T1.out.led, T1.out.but⟩
  refine region_quiet (fun w2 => Below W.heap.size W w2) (by kernel_rfl) (by kernel_rfl) (below_drewN (Below.refl _ _) 1) ?_
  repeat (first
    | (go_big_quiet_skip)
    | (refine quiet_row _ _ 35 _ _ PR.out rfl rfl ?_ Try.underlying35 rfl ?_ ?_; (focus kernel_rfl); (focus kernel_rfl); simp only [Act.put, List.setIfInBounds_toArray, List.set_cons_zero, List.set_cons_succ])
    | (go_big_quiet_step ((intro g2; first
      | (with_reducible rfl)
      | (with_reducible exact quiet_below g2 (HCV.out _))
      | (with_reducible exact quiet_below g2 (HUB.out _ g2))
      | (with_reducible exact quiet_below g2 (HOV.out _))))))
  refine wpQuiet_nil ?_
  intro w1 b1
  have T1 := Lib.hid (T0.out.under b1)
  clear b1 PR HUB HOV HCV
  go_wp2_with fail
  refine (HLF.out _ T1.out.led).mono ?_
  rintro er w2 ⟨rfl, b2⟩
  have T2 := Lib.hid (T1.out.under b2)
  clear b2
  cases LF
  · have hr := HRES.out.2.2.1 (by simp) (by simp) (by simp)
    subst hr
    go_wp2_with fail
    go_ret
    exact ⟨rfl, T2.out.led, T2.out.but⟩
  have hr := HRES.out.2.2.2 (by simp) (by simp) (by simp)
  subst hr
  have p0 : w2.cell? ⟨w.heap.size, 0, none⟩ = some (.int .i64 v1) := T2.out.arg.at_ 0
  have p1 : w2.cell? ⟨w.heap.size, 1, none⟩ = some (.int .i64 v2) := T2.out.arg.at_ 1
  have p2 : w2.cell? ⟨w.heap.size, 2, none⟩ = some (.int .i64 v3) := T2.out.arg.at_ 2
  go_wp2_with fail
  refine (HCT.out _ T2.out.led).mono ?_
  rintro er w3 ⟨rfl, l3, b3⟩
  have F3 := Lib.hid (And.intro l3 (T2.out.but.trans b3))
  clear l3 b3 p0 p1 p2
  go_wp2_with fail
  go_ret
  exact ⟨rfl, F3.out.1, F3.out.2⟩

end Go.Proofs.Ytkaikekibmgmmaa
