/- The landed ledger: what t and all nodes on its path use is turned. -/
import Derived.Test.YtkaikekibmgmmaaKlA
import Derived.Test.YtkaikekibmgmmaaBarr
import Derived.Test.YtkaikekibmgmmaaLgN
namespace Go.Proofs.Ytkaikekibmgmmaa
open Go.RowKit
set_option linter.unusedVariables false

section
variable {P : Program} {ops : Array Oper} {S : World → Prop} {w : World}
theorem yields_lookup {o : Oper} {a : Act} (T : TypeId) (m k : Operand) (ok : Bool) (v : Value) (ho : o.op = .lookup T m k ok) (hw : Region.wanted o (yielded ops a.tmps) = true) (vm vk : Value) (hm : a.eval m = vm) (hk : a.eval k = vk)
    (hr : ∀ w, S w → (Instr.lookup T vm vk ok).run P w = .ok v w) : YieldsIf P ops S o v a :=
  .inl ⟨hw, fun w hS => by unfold execOp; simp only [ho, hm, hk, Sem.run_bind, Sem.run_pure, hr w hS, Result.andThen_ok]⟩
/-- A function that is a value is called, as one step of a region that draws. -/
theorem step_callv {o : Oper} {a : Act} {K : Act → World → Prop} {Q : Exit → Act → World → Prop} {E : Prop} (hgd : o.guard = none) (k : Nat) (f : Operand) (xs : Array Operand) (ts : Array TypeId) (args : Array Value) (v : Value) (he : ∀ args w, (callFunc k args).run P w = .ok (.enter k args) w)
    (ho : o.op = .call { callee := .value f, args := xs, argTypes := ts }) (hf : a.eval f = .func (.func k) #[] #[]) (hx : xs.map a.eval = args) (R : World → Prop) (hc : Calls P k args w fun e w' => e = .returned v ∧ R w') (h : ∀ w', R w' → K (a.put o.dst v) w') :
    if Region.wanted o (yielded ops a.tmps) = true then Oper.wp P o a w K Q else E := by
  have hw : Region.wanted o (yielded ops a.tmps) = true := by simp [Region.wanted, hgd]
  rw [if_pos hw]
  have hr : (execOp a.eval o).run P w = .ok (.enter k args) w := by
    unfold execOp
    simp only [ho, resolve, hf, Deferred.ofValue, invoke, hx, Sem.run_bind, Sem.run_pure, Result.andThen_ok, Array.append_empty, Array.empty_append, he]
  unfold Oper.wp
  rw [hr, Oper.upon_enter]
  refine hc.mono ?_
  rintro e w' ⟨rfl, h2⟩
  exact h w' h2
end

structure LcSo (w : World) (j B r : Nat) (ns : List Nd) (v : V3) (L : List V3) (wr : World) : Prop where
  led : LmAt wr j B r ns L
  arg : Row wr w.heap.size #[.int .i64 v.x, .int .i64 v.y, .int .i64 v.z] 35
  but : But r w wr
theorem LcSo.under {w wr wz : World} {j B r : Nat} {ns : List Nd} {v : V3} {L : List V3} (h : LcSo w j B r ns v L wr) (g : Below wr.heap.size wr wz) : LcSo w j B r ns v L wz :=
  ⟨h.led.under g, h.arg.under g, h.but.trans (But.of_below g)⟩
theorem LcSo.store {w wr wz : World} {j B r : Nat} {ns : List Nd} {v : V3} {L : List V3} (h : LcSo w j B r ns v L wr) (g : But r wr wz) {n : Int} (hn : 0 ≤ n ∧ n < (L.length : Int)) {u : V3} {o : Option V3} (ho : o = if u = Qt.z3 then none else some u) (hm : MpAt (fun v : V3 => .agg v.c) wz r (Mp.upd (Lg.use L) n o)) : LcSo w j B r ns v (L.set n.toNat u) wz :=
  ⟨h.led.keep g (by rw [Lg.use_set hn, ← ho]; exact hm) (by simp), h.arg.keep g (h.led.mp.not_row h.arg), h.but.trans g⟩

set_option maxHeartbeats 2000000 in
set_option maxRecDepth 8000 in
theorem kCount {w : World} {j B r : Nat} {ns : List Nd} {L : List V3} (hA : LmAt w j B r ns L) (t : Int) (v : V3) (kb : Nat) (g : V3 → V3) (hen : ∀ args w, (callFunc kb args).run Try.prog w = .ok (.enter kb args) w)
    (hby : ∀ u w, Calls Try.prog kb #[.agg #[.int .i64 u.x, .int .i64 u.y, .int .i64 u.z], .agg #[.int .i64 v.x, .int .i64 v.y, .int .i64 v.z]] w (RetBelow (.agg #[.int .i64 (g u).x, .int .i64 (g u).y, .int .i64 (g u).z]) w)) :
    Calls Try.prog 31 #[.pointer (some ⟨j, 0, none⟩), .int .i64 t, .agg #[.int .i64 v.x, .int .i64 v.y, .int .i64 v.z], .func (.func kb) #[] #[]] w fun e w' => e = .returned (.tuple #[]) ∧ LmAt w' j B r ns (Lg.upd g (Qt.path ns t) L) ∧ But r w w' := by
  have hpa := fun w2 (h : LmAt w2 j B r ns L) => qPath ns (some ⟨B, 0, none⟩) ns.length B 0 none 0 0 0 0 t w2 h.sl (Nat.le_trans h.few (by decide))
  have hpi : ∀ n ∈ Qt.path ns t, 0 ≤ n ∧ n < (L.length : Int) := fun n hn => by rw [hA.len]; exact Lg.path_in ns _ _ _ (by simp) n hn
  have hus := Lg.upto_succ g (Qt.path ns t) L
  have hu0 : Lg.upto g (Qt.path ns t) L 0 = L := rfl
  have hul := fun k => Lg.upto_len g (Qt.path ns t) L k
  have hue : Lg.upto g (Qt.path ns t) L (Qt.path ns t).length = Lg.upd g (Qt.path ns t) L := by rw [Lg.upto, List.take_length]
  obtain ⟨U, hU⟩ : ∃ f, Lg.upto g (Qt.path ns t) L = f := ⟨_, rfl⟩
  rw [hU] at hus hu0 hul hue
  rw [← hue]
  obtain ⟨P, hP⟩ : ∃ f, Qt.path ns t = f := ⟨_, rfl⟩
  simp only [hP] at hpa hpi hus ⊢
  have al := (Below.refl w.heap.size w).alloc (Nat.le_refl w.heap.size) (.cells #[.int .i64 v.x, .int .i64 v.y, .int .i64 v.z] 35)
  have t0 : LcSo w j B r ns v (U 0) (w.alloc (.cells #[.int .i64 v.x, .int .i64 v.y, .int .i64 v.z] 35)) := by rw [hu0]; exact ⟨hA.under al, Row.new w _ _, But.of_below al⟩
  have hrw := hA.mp.lt
  obtain ⟨v1, v2, v3⟩ := v
  simp only at *
  obtain ⟨W, hW⟩ : ∃ x, w.alloc (.cells #[.int .i64 v1, .int .i64 v2, .int .i64 v3] 35) = x := ⟨_, rfl⟩
  rw [hW] at t0
  have hp := hpa W (by rw [← hu0]; exact t0.led)
  obtain ⟨nl, hnl⟩ : ∃ n, ns.length = n := ⟨_, rfl⟩
  rw [hnl] at hp
  have p0 := t0.led.box.at_ 0
  have p1 := t0.led.box.at_ 1
  have p2 := t0.led.box.at_ 2
  have p3 := t0.led.box.at_ 3
  simp only [List.getElem?_toArray, List.getElem?_cons_zero, List.getElem?_cons_succ, hnl] at p0 p1 p2 p3
  have HPA := Lib.hid hp; have HPI := Lib.hid hpi; have HUS := Lib.hid hus; have HUL := Lib.hid hul; have T0 := Lib.hid t0; have HBY := Lib.hid hby; have HRW := Lib.hid hrw
  clear hp hpa hpi hus hu0 hul hue t0 al hA hby hrw hP hU hnl
  go_enter Try.func31, Try.ntmps31
  go_upto_region 1 with fail
  clear hW
  go_wp2_with fail
  refine HPA.out.mono ?_
  rintro er w3 ⟨lo, lc, lb, rfl, sl, b3⟩
  have T3 := Lib.hid (T0.out.under b3)
  have hix := sl.idx
  have p63 := sl.small
  have hcl := fun w9 (g : But r w3 w9) (k : Nat) x (hx : P[k]? = some x) => (show w9.cell? ⟨lb, 0 + k * 1, none⟩ = some (.int .i64 x) from by
    have hk : k < P.length := by
      rcases Nat.lt_or_ge k P.length with q | q
      · exact q
      · rw [List.getElem?_eq_none q] at hx; cases hx
    exact (World.cell?_of_block (a := ⟨lb, _, none⟩) (g.block lb (sl.lt (by omega)) (T3.out.led.mp.not_sl sl (fun x => ⟨_, rfl⟩) (by omega)))).trans (sl.at_ k x hx 0 _ rfl))
  have hex := fun (k : Nat) (e : k < P.length) => (show ∃ x, P[k]? = some x ∧ 0 ≤ x ∧ x < (L.length : Int) from ⟨_, List.getElem?_eq_getElem e, HPI.out _ (List.getElem_mem e)⟩)
  obtain ⟨pl, hpl⟩ : ∃ n, P.length = n := ⟨_, rfl⟩
  rw [hpl] at hix p63 hex ⊢
  obtain ⟨zp, hzp⟩ : ∃ z : Int, (pl : Int) = z := ⟨_, rfl⟩
  have HIX := Lib.hid hix; have HCL := Lib.hid hcl; have HEX := Lib.hid hex; have HPL := Lib.hid hpl
  clear hix hcl hex hpl sl b3 p0 p1 p2 p3 HPA T0
  go_wp2_with fail
  go_loopw [18] (fun i wr => ∃ (k : Int), i = .int .i64 k ∧ 0 ≤ k ∧ k ≤ zp ∧ Hid (LcSo w j B r ns ⟨v1, v2, v3⟩ (U k.toNat) wr ∧ But r w3 wr)) (fun i _ => (zp - intOf i).toNat)
  case atStart => exact ⟨0, rfl, by omega, by omega, T3.out, But.refl _ _⟩
  case round =>
    obtain ⟨k, rfl, hk0, hkz, hd⟩ := hrel
    by_cases hlt : k < zp
    · obtain ⟨x, hx, hx0, hx1⟩ := HEX.out k.toNat (by omega)
      have hi := HIX.out k.toNat (by omega)
      rw [show ((k.toNat : Nat) : Int) = k by omega] at hi
      have hcell := HCL.out wr hd.out.2 k.toNat x hx
      obtain ⟨oj, hoj⟩ : ∃ n, 0 + k.toNat * 1 = n := ⟨_, rfl⟩
      simp only [hoj] at hi hcell
      have hus := HUS.out k.toNat x hx
      have l4 := fun w9 (g9 : Below wr.heap.size wr w9) => load_plain Try.underlying62 rfl (show w9.cell? ⟨j, 4, none⟩ = some (.map (some r)) from (hd.out.1.led.under g9).box.at_ 4)
      have lk := fun w9 (g9 : Below wr.heap.size wr w9) => lm_look (hd.out.1.led.under g9).mp x
      have l7 := fun w9 (g9 : Below wr.heap.size wr w9) => load_mid (row_range (hd.out.1.arg.under g9) 0 [.int .i64 v1, .int .i64 v2, .int .i64 v3] (cl_three rfl rfl rfl)) Try.underlying35 rfl vec_len
      obtain ⟨y, hy⟩ : ∃ y, Qt.ath (U k.toNat) x = y := ⟨_, rfl⟩
      rw [hy] at hus
      simp only [hy] at lk
      have hby := fun w9 => HBY.out y w9
      obtain ⟨z, hz⟩ : ∃ z, g y = z := ⟨_, rfl⟩
      rw [hz] at hus
      simp only [hz] at hby
      obtain ⟨y1, y2, y3⟩ := y
      obtain ⟨z1, z2, z3⟩ := z
      simp only at hby lk
      have hneq := fun w9 => vec_neq3 w9 ⟨z1, z2, z3⟩ Qt.z3
      have hd1 := hd.out.1
      have hd2 := hd.out.2
      have L4 := Lib.hid l4; have LK := Lib.hid lk; have L7 := Lib.hid l7; have HZ := Lib.hid hby; have HU := Lib.hid hus; have H1 := Lib.hid hd1; have H2 := Lib.hid hd2; have HNE := Lib.hid hneq; have HX := Lib.hid hx
      clear l4 lk l7 hby hus hd1 hd2 hd hneq hy hz hx hoj HBY
      have HBY := HZ
      go_wp2_with fail
      go_cut [10] from 22 to 30 (fun p wx => ∃ q : Nat, p = .pointer (some ⟨q, 0, none⟩) ∧ wr.heap.size ≤ q ∧ Hid (Row wx q #[.int .i64 z1, .int .i64 z2, .int .i64 z3] 35 ∧ Below wr.heap.size wr wx))
      case first =>
        have D0 := Lib.hid (show Below wr.heap.size wr wr.drew from below_drewN (Below.refl _ _) 1)
        refine wp_region_barr (fun w9 => Below wr.heap.size wr w9) 10 (by kernel_rfl) ?_
        generalize wr.drew = WD at D0 ⊢
        refine barr_take (v := ?v0) 0 rfl (by decide) (by kernel_rfl) (by kernel_rfl) (by kernel_rfl) (fun _ _ _ h => h) (.inl ⟨by rfl, ?hy0⟩) (.inr D0.out) ?rest0
        case hy0 => intro w hSw; (try go_simp); (try with_reducible rfl)
        try simp only [Act.put, List.setIfInBounds_toArray, List.set_cons_zero, List.set_cons_succ]
        refine barr_take (v := ?v1) 1 rfl (by decide) (by kernel_rfl) (by kernel_rfl) (by kernel_rfl) (fun _ _ _ h => h) (.inl ⟨by rfl, ?hy1⟩) (.inr D0.out) ?rest1
        case hy1 => intro w hSw; (try go_simp); (try with_reducible rfl)
        try simp only [Act.put, List.setIfInBounds_toArray, List.set_cons_zero, List.set_cons_succ]
        refine barr_take (v := ?v2) 2 rfl (by decide) (by kernel_rfl) (by kernel_rfl) (by kernel_rfl) (fun _ _ _ h => h) (.inl ⟨by rfl, ?hy2⟩) (.inr D0.out) ?rest2
        case hy2 => intro w hSw; (try go_simp); (try with_reducible rfl)
        try simp only [Act.put, List.setIfInBounds_toArray, List.set_cons_zero, List.set_cons_succ]
        refine barr_take (v := ?v3) 3 rfl (by decide) (by kernel_rfl) (by kernel_rfl) (by kernel_rfl) (fun _ _ _ h => h) (.inl ⟨by rfl, ?hy3⟩) (.inr D0.out) ?rest3
        case hy3 => intro w hSw; (try go_simp); (try with_reducible rfl)
        try simp only [Act.put, List.setIfInBounds_toArray, List.set_cons_zero, List.set_cons_succ]
        refine barr_load (v := _) 4 rfl (by decide) (by kernel_rfl) (by kernel_rfl) (by kernel_rfl) (by kernel_rfl) (by kernel_rfl) (fun _ _ _ h => h) (yields_load 62 _ _ rfl (by kernel_rfl) _ rfl (fun w9 g9 => L4.out w9 g9)) D0.out ?_
        try simp only [Act.put, List.setIfInBounds_toArray, List.set_cons_zero, List.set_cons_succ]
        refine barr_take (v := ?v5) 5 rfl (by decide) (by kernel_rfl) (by kernel_rfl) (by kernel_rfl) (fun _ _ _ h => h) (.inl ⟨by rfl, ?hy5⟩) (.inr D0.out) ?rest5
        case hy5 => intro w hSw; (try go_simp); (try with_reducible rfl)
        try simp only [Act.put, List.setIfInBounds_toArray, List.set_cons_zero, List.set_cons_succ]
        refine barr_load (v := _) 6 rfl (by decide) (by kernel_rfl) (by kernel_rfl) (by kernel_rfl) (by kernel_rfl) (by kernel_rfl) (fun _ _ _ h => h) (yields_lookup 62 _ _ _ _ rfl (by kernel_rfl) _ _ rfl rfl (fun w9 g9 => LK.out w9 g9)) D0.out ?_
        try simp only [Act.put, List.setIfInBounds_toArray, List.set_cons_zero, List.set_cons_succ]
        refine barr_load (v := _) 7 rfl (by decide) (by kernel_rfl) (by kernel_rfl) (by kernel_rfl) (by kernel_rfl) (by kernel_rfl) (fun _ _ _ h => h) (yields_load 35 _ _ rfl (by kernel_rfl) _ rfl (fun w9 g9 => L7.out w9 g9)) D0.out ?_
        try simp only [Act.put, List.setIfInBounds_toArray, List.set_cons_zero, List.set_cons_succ]
        refine barr_two 8 9 rfl rfl (by kernel_rfl) ?_ ?_
        · intro K hK
          refine step_callv rfl kb _ _ _ #[.agg #[.int .i64 y1, .int .i64 y2, .int .i64 y3], .agg #[.int .i64 v1, .int .i64 v2, .int .i64 v3]] (.agg #[.int .i64 z1, .int .i64 z2, .int .i64 z3]) hen rfl rfl (by kernel_rfl) (Below WD.heap.size WD) (HBY.out _) ?_
          intro V1 b1
          have D1 := Lib.hid (D0.out.trans (b1.mono D0.out.size))
          clear b1
          refine hK.out _ _ (.inr D1.out) ?_
          clear hK K
          try simp only [Act.put, List.setIfInBounds_toArray, List.set_cons_zero, List.set_cons_succ]
          refine barr_step 9 rfl (by kernel_rfl) ?_
          intro K hK
          have d9 := D1.out.alloc D1.out.size (.cells #[.int .i64 0, .int .i64 0, .int .i64 0] 35)
          have r9 := Row.new V1 #[.int .i64 0, .int .i64 0, .int .i64 0] 35
          have lq := D1.out.size
          go_simp
          refine hK.out _ _ (.inr d9) ?_
          clear hK K
          obtain ⟨V2, hv⟩ : ∃ v, V1.alloc (.cells #[.int .i64 0, .int .i64 0, .int .i64 0] 35) = v := ⟨_, rfl⟩
          obtain ⟨q, hq⟩ : ∃ v, V1.heap.size = v := ⟨_, rfl⟩
          rw [hv] at d9 r9 ⊢
          rw [hq] at r9 lq ⊢
          have D2 := Lib.hid d9; have R2 := Lib.hid r9; have LQ := Lib.hid lq
          clear d9 r9 lq hv hq
          try simp only [Act.put, List.setIfInBounds_toArray, List.set_cons_zero, List.set_cons_succ]
          refine barr_step 10 rfl (by kernel_rfl) ?_
          intro K hK
          refine step_store_row rfl 35 _ _ rfl q #[.int .i64 z1, .int .i64 z2, .int .i64 z3] rfl rfl _ _ R2.out vec_len rfl (one_cells _ _ _) ?_
          refine hK.out _ _ (.inl (by kernel_rfl)) ?_
          clear hK K
          simp only [Act.put]
          have FIN := Lib.hid (And.intro (R2.out.setRow #[.int .i64 z1, .int .i64 z2, .int .i64 z3]) (below_setRow3 D2.out LQ.out #[.int .i64 z1, .int .i64 z2, .int .i64 z3]))
          refine barr_done (by kernel_rfl) ?_ _
          go_wp2_with fail
          go_meet
          exact ⟨q, rfl, LQ.out, FIN⟩
        · intro K hK
          have d9 := D0.out.alloc D0.out.size (.cells #[.int .i64 0, .int .i64 0, .int .i64 0] 35)
          have r9 := Row.new WD #[.int .i64 0, .int .i64 0, .int .i64 0] 35
          have lq := D0.out.size
          go_simp
          refine hK.out _ _ (.inr d9) ?_
          clear hK K
          obtain ⟨V1, hv⟩ : ∃ v, WD.alloc (.cells #[.int .i64 0, .int .i64 0, .int .i64 0] 35) = v := ⟨_, rfl⟩
          obtain ⟨q, hq⟩ : ∃ v, WD.heap.size = v := ⟨_, rfl⟩
          rw [hv] at d9 r9 ⊢
          rw [hq] at r9 lq ⊢
          have D1 := Lib.hid d9; have R1 := Lib.hid r9; have LQ := Lib.hid lq
          clear d9 r9 lq hv hq
          try simp only [Act.put, List.setIfInBounds_toArray, List.set_cons_zero, List.set_cons_succ]
          refine barr_step 8 rfl (by kernel_rfl) ?_
          intro K hK
          refine step_callv rfl kb _ _ _ #[.agg #[.int .i64 y1, .int .i64 y2, .int .i64 y3], .agg #[.int .i64 v1, .int .i64 v2, .int .i64 v3]] (.agg #[.int .i64 z1, .int .i64 z2, .int .i64 z3]) hen rfl rfl (by kernel_rfl) (Below V1.heap.size V1) (HBY.out _) ?_
          intro V2 b2
          have D2 := Lib.hid (D1.out.trans (b2.mono D1.out.size))
          have R2 := Lib.hid (R1.out.under b2)
          clear b2
          refine hK.out _ _ (.inr D2.out) ?_
          clear hK K
          try simp only [Act.put, List.setIfInBounds_toArray, List.set_cons_zero, List.set_cons_succ]
          refine barr_step 10 rfl (by kernel_rfl) ?_
          intro K hK
          refine step_store_row rfl 35 _ _ rfl q #[.int .i64 z1, .int .i64 z2, .int .i64 z3] rfl rfl _ _ R2.out vec_len rfl (one_cells _ _ _) ?_
          refine hK.out _ _ (.inl (by kernel_rfl)) ?_
          clear hK K
          simp only [Act.put]
          have FIN := Lib.hid (And.intro (R2.out.setRow #[.int .i64 z1, .int .i64 z2, .int .i64 z3]) (below_setRow3 D2.out LQ.out #[.int .i64 z1, .int .i64 z2, .int .i64 z3]))
          refine barr_done (by kernel_rfl) ?_ _
          go_wp2_with fail
          go_meet
          exact ⟨q, rfl, LQ.out, FIN⟩
      obtain ⟨q, rfl, hq, hfin⟩ := hcut
      obtain ⟨fr, fb⟩ := hfin.out
      have H5 := Lib.hid (H1.out.under fb); have B5 := Lib.hid (H2.out.trans (But.of_below fb)); have FR := Lib.hid fr
      clear fr fb hfin L4 LK L7 HBY HZ H1 H2 hi hcell
      have q0 := FR.out.at_ 0
      have q1 := FR.out.at_ 1
      have q2 := FR.out.at_ 2
      simp only [List.getElem?_toArray, List.getElem?_cons_zero, List.getElem?_cons_succ] at q0 q1 q2
      have hlen := HUL.out k.toNat
      by_cases hz : (⟨z1, z2, z3⟩ : V3) = Qt.z3
      · have hn := fun w9 => HNE.out w9
        rw [decide_eq_true hz] at hn
        obtain ⟨w6, hrun, hm6, hb6⟩ := Mp.drop H5.out.led.mp Try.underlying62 Try.underlying3 x 0 3
        have s6 := H5.out.store hb6 ⟨hx0, by rw [hlen]; exact hx1⟩ (u := ⟨z1, z2, z3⟩) (o := none) (by rw [if_pos hz]) hm6
        rw [HU.out] at s6
        have p4 : wc.cell? ⟨j, 4, none⟩ = some (.map (some r)) := H5.out.led.box.at_ 4
        have S6 := Lib.hid (And.intro s6 (B5.out.trans hb6)); have HRUN := Lib.hid hrun
        clear s6 hrun hm6 hb6 hlen hz HNE
        simp only [Qt.z3, Bool.not_true] at hn
        go_wp2_with (first | (at_delete; refine wpList_delete_by rfl _ _ _ _ rfl _ _ _ _ rfl rfl HRUN.out ?_) | fail)
        go_roundw
        case rel => exact ⟨k + 1, rfl, by omega, by omega, by rw [show (k + 1).toNat = k.toNat + 1 by omega]; exact S6.out⟩
        case measure => simp [intOf]; omega
      · have hn := fun w9 => HNE.out w9
        rw [decide_eq_false hz] at hn
        have HZ := Lib.hid hz; have HLEN := Lib.hid hlen
        have p4 := fun w9 (g9 : Below wc.heap.size wc w9) => (show w9.cell? ⟨j, 4, none⟩ = some (.map (some r)) from (H5.out.led.under g9).box.at_ 4)
        have pr := fun w9 (g9 : Below wc.heap.size wc w9) => (show ∃ t fr, w9.heap[q]? = some (.cells #[.int .i64 z1, .int .i64 z2, .int .i64 z3] t fr) from ⟨_, _, FR.out.under g9⟩)
        have P4 := Lib.hid p4; have PR := Lib.hid pr
        clear hlen hz HNE p4 pr
        simp only [Qt.z3, Bool.not_false] at hn
        go_wp2_with fail
        clear hn q0 q1 q2
        refine region_quiet_tail 6 (fun w9 => Below wc.heap.size wc w9) (by kernel_rfl) (by kernel_rfl) (below_drewN (Below.refl _ _) 1) ?_
        simp only [List.take_succ_cons, List.take_zero, List.drop_succ_cons, List.drop_zero]
        repeat (first
          | (go_big_quiet_skip)
          | (refine quiet_row _ _ 35 _ _ PR.out rfl rfl ?_ Try.underlying35 rfl ?_ ?_; (focus kernel_rfl); (focus kernel_rfl); simp only [Act.put, List.setIfInBounds_toArray, List.set_cons_zero, List.set_cons_succ])
          | (refine quiet_cell _ _ 62 _ _ P4.out rfl rfl ?_ Try.underlying62 rfl ?_; (focus kernel_rfl); simp only [Act.put, List.setIfInBounds_toArray, List.set_cons_zero, List.set_cons_succ])
          | (go_big_quiet_step ((intro g2; first
            | (with_reducible rfl)))))
        refine wpQuiet_nil ?_
        intro w5 g5
        have h5 := H5.out.under g5
        obtain ⟨w6, hrun, hm6, hb6⟩ := Mp.store h5.led.mp Try.underlying62 Try.underlying3 x ⟨z1, z2, z3⟩
        have s6 := h5.store hb6 ⟨hx0, by rw [HLEN.out]; exact hx1⟩ (u := ⟨z1, z2, z3⟩) (o := some ⟨z1, z2, z3⟩) (by rw [if_neg HZ.out]) hm6
        rw [HU.out] at s6
        have S6 := Lib.hid (And.intro s6 ((B5.out.trans (But.of_below g5)).trans hb6))
        have HRUN := Lib.hid (show (Instr.mapUpdate 62 (.map (some r)) (.int .i64 x) (.agg #[.int .i64 z1, .int .i64 z2, .int .i64 z3])).run Try.prog w5 = .ok () w6 from hrun)
        clear s6 hrun hm6 hb6 h5 g5 P4 PR
        go_wp2_with (first | (at_mapUpdate; refine wpList_update_by rfl 62 _ _ _ rfl _ _ _ _ rfl rfl rfl HRUN.out ?_) | fail)
        go_roundw
        case rel => exact ⟨k + 1, rfl, by omega, by omega, by rw [show (k + 1).toNat = k.toNat + 1 by omega]; exact S6.out⟩
        case measure => simp [intOf]; omega
    · have so := hd.out.1
      rw [show k.toNat = pl by omega] at so
      have FIN := Lib.hid so
      clear so hd
      go_wp2_with fail
      go_end0
      exact ⟨rfl, by rw [HPL.out]; exact FIN.out.led, FIN.out.but⟩

end Go.Proofs.Ytkaikekibmgmmaa
