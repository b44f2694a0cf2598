/- Configurations: the statements' walks. -/
import Derived.Test.YtmpmnehapildeaaCfgC
namespace Go.Proofs.Ytmpmnehapildeaa
open Go.RowKit
set_option linter.unusedVariables false

theorem cfg_row {w : World} {g : Nat} {cs : Array Value} {t : TypeId} (h : Row w g cs t) {w' : World} (k : Below w.heap.size w w') : ∃ t fr, w'.heap[g]? = some (.cells cs t fr) := ⟨t, (0, 0), h.under k⟩

set_option maxHeartbeats 1000000 in
set_option maxRecDepth 8000 in
theorem ConfigChecks_walk (C : CfC) {c : Cmd} {vn vh : Value} {w : World} (h : CmAt c vn vh w) (hw : c.wide) :
    Calls Try.prog 3 #[.agg (c.f vn vh)] w (RetBelow (.bool true) w) := by
  have cA := Lib.hid (fAwake_any C)
  have cf := fun w2 (g : Below w.heap.size w w2) => few9_any c vn vh w2 (h.kept g)
  have ck := fun w2 (g : Below w.heap.size w w2) => C.check c vn vh w2 hw (h.kept g)
  have cq := fun w2 (g : Below w.heap.size w w2) => rCheck9At (h.kept g)
  obtain ⟨fw, hfw⟩ : ∃ b, (decide (c.nodes.length ≤ 300) && decide (c.hosts.length ≤ 2000)) = b := ⟨_, rfl⟩
  rw [hfw] at cf
  obtain ⟨an, ln, cn, ah, lh, ch, rfl, rfl⟩ := h.slices
  obtain ⟨q, hq⟩ : ∃ s, Cf.check c = s := ⟨_, rfl⟩
  simp only [hq] at ck cq
  clear h hw hfw hq
  obtain ⟨kind, nodes, hosts, half, age, g, n⟩ := c
  simp only [Cmd.f] at *
  have CF := Lib.hid cf; have CK := Lib.hid ck; have CQ := Lib.hid cq
  clear cf ck cq
  have g0 : Below w.heap.size w (w.alloc (.cells #[.slice an ln cn, .slice ah lh ch, .int .i64 half, .int .i64 age] 25)) := (Below.refl _ _).alloc (Nat.le_refl _) _
  have r0 := Row.new w #[.slice an ln cn, .slice ah lh ch, .int .i64 half, .int .i64 age] 25
  have G0 := Lib.hid g0; have R0 := Lib.hid r0
  clear g0 r0
  go_enter Try.func3, Try.ntmps3
  go_wp2_with fail
  refine (CF.out _ G0.out).mono ?_
  rintro er w1 ⟨rfl, b1⟩
  have G1 := Lib.hid (below_trans G0.out b1); have R1 := Lib.hid (R0.out.under b1); clear b1
  cases fw
  · go_wp2_with fail
    refine (cA.out _).mono ?_
    rintro er w2 ⟨rfl, b2⟩
    have G2 := Lib.hid (below_trans G1.out b2); clear b2
    go_wp2_with fail
    go_ret
    exact ⟨rfl, G2.out⟩
  go_wp2_with fail
  have rr := fun w2 (g : Below w1.heap.size w1 w2) => cfg_row R1.out g
  have CK2 := Lib.hid (fun w2 (g : Below w1.heap.size w1 w2) => CK.out w2 (below_trans G1.out g)); have CQ2 := Lib.hid (fun w2 (g : Below w1.heap.size w1 w2) => CQ.out w2 (below_trans G1.out g))
  refine region_quiet (fun w2 => Below w1.heap.size w1 w2) (by kernel_rfl) (by kernel_rfl) (below_drewN (Below.refl _ _) 1) ?_
  repeat (first
    | (go_big_quiet_skip)
    | (refine quiet_row _ _ 25 _ _ rr rfl rfl ?_ Try.underlying25 rfl ?_ ?_; (focus kernel_rfl); (focus kernel_rfl); simp only [Act.put, List.setIfInBounds_toArray, List.set_cons_zero, List.set_cons_succ])
    | (go_big_quiet_step ((intro g2; first
      | (with_reducible rfl)
      | (with_reducible exact quiet_below g2 (CK2.out _ g2))
      | (with_reducible exact quiet_below g2 (CQ2.out _ g2))
      | (with_reducible exact quiet_below g2 (cA.out _))))))
  refine wpQuiet_nil ?_
  intro w4 g4
  have G4 := Lib.hid (below_trans G1.out g4); clear g4 rr
  go_wp2_with fail
  go_ret
  exact ⟨rfl, G4.out⟩

set_option maxHeartbeats 1000000 in
set_option maxRecDepth 8000 in
theorem ConfigSame_walk (C : CfC) {c d : Cmd} {vn vh un uh : Value} {w : World} (h : CmAt c vn vh w) (hw : c.wide) (h' : CmAt d un uh w) (hw' : d.wide) :
    Calls Try.prog 4 #[.agg (c.f vn vh), .agg (d.f un uh)] w (RetBelow (.bool true) w) := by
  have cA := Lib.hid (fAwake_any C)
  have cf := fun w2 (g : Below w.heap.size w w2) => few9_any c vn vh w2 (h.kept g)
  have cf' := fun w2 (g : Below w.heap.size w w2) => few9_any d un uh w2 (h'.kept g)
  have c1 := fun (e : c.few9) (e' : d.few9) w2 (g : Below w.heap.size w w2) => C.same c d vn vh un uh w2 hw e hw' e' (h.kept g) (h'.kept g)
  have c2 := fun w2 (g : Below w.heap.size w w2) => rConfigAt (h.kept g) (h'.kept g)
  have c3 := fun (e : c.few9) w2 (g : Below w.heap.size w w2) => C.same c c vn vh vn vh w2 hw e hw e (h.kept g) (h.kept g)
  rw [show Cm.sameC c c = true by simp [Cm.sameC]] at c3
  obtain ⟨fw, hfw⟩ : ∃ b, (decide (c.nodes.length ≤ 300) && decide (c.hosts.length ≤ 2000)) = b := ⟨_, rfl⟩
  have hfe : fw = true → c.few9 := fun e => by rw [e] at hfw; simpa [Cmd.few9] using hfw
  obtain ⟨fv, hfv⟩ : ∃ b, (decide (d.nodes.length ≤ 300) && decide (d.hosts.length ≤ 2000)) = b := ⟨_, rfl⟩
  have hfe' : fv = true → d.few9 := fun e => by rw [e] at hfv; simpa [Cmd.few9] using hfv
  rw [hfw] at cf
  rw [hfv] at cf'
  obtain ⟨r, hr⟩ : ∃ b, Cm.sameC c d = b := ⟨_, rfl⟩
  rw [hr] at c1 c2
  obtain ⟨an, ln, cn, ah, lh, ch, rfl, rfl⟩ := h.slices
  obtain ⟨an', ln', cn', ah', lh', ch', rfl, rfl⟩ := h'.slices
  clear h hw hfw h' hw' hfv hr
  obtain ⟨kind, nodes, hosts, half, age, g, n⟩ := c
  obtain ⟨kind', nodes', hosts', half', age', g', n'⟩ := d
  simp only [Cmd.f] at *
  have CF := Lib.hid cf; have CF' := Lib.hid cf'; have C1 := Lib.hid (fun (e : fw = true) (e' : fv = true) => c1 (hfe e) (hfe' e')); have C2 := Lib.hid c2; have C3 := Lib.hid (fun (e : fw = true) => c3 (hfe e))
  clear cf cf' c1 c2 c3 hfe hfe'
  have g0 : Below w.heap.size w ((w.alloc (.cells #[.slice an ln cn, .slice ah lh ch, .int .i64 half, .int .i64 age] 25)).alloc (.cells #[.slice an' ln' cn', .slice ah' lh' ch', .int .i64 half', .int .i64 age'] 25)) := two_below _ _ _
  have r0 : Row ((w.alloc (.cells #[.slice an ln cn, .slice ah lh ch, .int .i64 half, .int .i64 age] 25)).alloc (.cells #[.slice an' ln' cn', .slice ah' lh' ch', .int .i64 half', .int .i64 age'] 25)) w.heap.size #[.slice an ln cn, .slice ah lh ch, .int .i64 half, .int .i64 age] 25 := (Row.new w #[.slice an ln cn, .slice ah lh ch, .int .i64 half, .int .i64 age] 25).under ((Below.refl _ _).alloc (Nat.le_refl _) _)
  have q0 : Row ((w.alloc (.cells #[.slice an ln cn, .slice ah lh ch, .int .i64 half, .int .i64 age] 25)).alloc (.cells #[.slice an' ln' cn', .slice ah' lh' ch', .int .i64 half', .int .i64 age'] 25)) (w.heap.size + 1) #[.slice an' ln' cn', .slice ah' lh' ch', .int .i64 half', .int .i64 age'] 25 := by
    have := Row.new (w.alloc (.cells #[.slice an ln cn, .slice ah lh ch, .int .i64 half, .int .i64 age] 25)) #[.slice an' ln' cn', .slice ah' lh' ch', .int .i64 half', .int .i64 age'] 25
    rwa [World.size_alloc] at this
  have G0 := Lib.hid g0; have R0 := Lib.hid r0; have Q0 := Lib.hid q0
  clear g0 r0 q0
  go_enter Try.func4, Try.ntmps4
  go_wp2_with fail
  refine (CF.out _ G0.out).mono ?_
  rintro er w1 ⟨rfl, b1⟩
  have G1 := Lib.hid (below_trans G0.out b1); have R1 := Lib.hid (R0.out.under b1); have Q1 := Lib.hid (Q0.out.under b1); clear b1
  cases fw
  · go_wp2_with fail
    refine (cA.out _).mono ?_
    rintro er w2 ⟨rfl, b2⟩
    have G2 := Lib.hid (below_trans G1.out b2); clear b2
    go_wp2_with fail
    go_ret
    exact ⟨rfl, G2.out⟩
  have c0 : w1.cell? ⟨w.heap.size + 1, 0, none⟩ = some (.slice an' ln' cn') := Q1.out.at_ 0
  have c1 : w1.cell? ⟨w.heap.size + 1, 1, none⟩ = some (.slice ah' lh' ch') := Q1.out.at_ 1
  have c2 : w1.cell? ⟨w.heap.size + 1, 2, none⟩ = some (.int .i64 half') := Q1.out.at_ 2
  have c3 : w1.cell? ⟨w.heap.size + 1, 3, none⟩ = some (.int .i64 age') := Q1.out.at_ 3
  go_wp2_with fail
  refine (CF'.out _ G1.out).mono ?_
  rintro er w2 ⟨rfl, b2⟩
  have G2 := Lib.hid (below_trans G1.out b2); have R2 := Lib.hid (R1.out.under b2); have Q2 := Lib.hid (Q1.out.under b2); clear b2 c0 c1 c2 c3
  cases fv
  · go_wp2_with fail
    refine (cA.out _).mono ?_
    rintro er w3 ⟨rfl, b3⟩
    have G3 := Lib.hid (below_trans G2.out b3); clear b3
    go_wp2_with fail
    go_ret
    exact ⟨rfl, G3.out⟩
  go_wp2_with fail
  have rr := fun w3 (g : Below w2.heap.size w2 w3) => cfg_row R2.out g
  have rq := fun w3 (g : Below w2.heap.size w2 w3) => cfg_row Q2.out g
  have K1 := Lib.hid (fun w3 (g : Below w2.heap.size w2 w3) => C1.out (by trivial) (by trivial) w3 (below_trans G2.out g)); have K2 := Lib.hid (fun w3 (g : Below w2.heap.size w2 w3) => C2.out w3 (below_trans G2.out g)); have K3 := Lib.hid (fun w3 (g : Below w2.heap.size w2 w3) => C3.out (by trivial) w3 (below_trans G2.out g))
  refine region_quiet (fun w3 => Below w2.heap.size w2 w3) (by kernel_rfl) (by kernel_rfl) (below_drewN (Below.refl _ _) 1) ?_
  repeat (first
    | (go_big_quiet_skip)
    | (refine quiet_row _ _ 25 _ _ rr rfl rfl ?_ Try.underlying25 rfl ?_ ?_; (focus kernel_rfl); (focus kernel_rfl); simp only [Act.put, List.setIfInBounds_toArray, List.set_cons_zero, List.set_cons_succ])
    | (refine quiet_row _ _ 25 _ _ rq rfl rfl ?_ Try.underlying25 rfl ?_ ?_; (focus kernel_rfl); (focus kernel_rfl); simp only [Act.put, List.setIfInBounds_toArray, List.set_cons_zero, List.set_cons_succ])
    | (go_big_quiet_step ((intro g2; first
      | (with_reducible rfl)
      | (with_reducible exact quiet_below g2 (K1.out _ g2))
      | (with_reducible exact quiet_below g2 (K2.out _ g2))
      | (with_reducible exact quiet_below g2 (K3.out _ g2))
      | (with_reducible exact quiet_below g2 (cA.out _))))))
  refine wpQuiet_nil ?_
  intro w4 g4
  have G4 := Lib.hid (below_trans G2.out g4); clear g4 rr rq
  go_wp2_with fail
  go_ret
  exact ⟨rfl, G4.out⟩

set_option maxHeartbeats 1000000 in
set_option maxRecDepth 8000 in
theorem ConfigTenants_walk (C : CfC) {c : Cmd} {vn vh : Value} {w : World} (h : CmAt c vn vh w) (hw : c.wide) :
    Calls Try.prog 5 #[.agg (c.f vn vh)] w (RetBelow (.bool true) w) := by
  have cA := Lib.hid (fAwake_any C)
  have ck := fun w2 (g : Below w.heap.size w w2) => C.check c vn vh w2 hw (h.kept g)
  have cl := fun (n : Int) (hn : In64 n) (hs : c.nodes.length ≤ 300) w2 (g : Below w.heap.size w w2) => C.leaf c vn vh n w2 hw hn hs (h.kept g)
  have cv := fun (hs : c.nodes.length ≤ 300) w2 (g : Below w.heap.size w w2) => C.leaves c vn vh w2 hw hs (h.kept g)
  have hgood : Cf.check c = 0 → (1 ≤ c.nodes.length ∧ c.nodes.length ≤ 12) ∧ 0 < (Cf.leaves c.nodes).length ∧ (∀ x, c.nodes[0]? = some x → x.par = -1) ∧ ∀ (k : Nat) x, 0 < k → c.nodes[k]? = some x → In64 x.par ∧ 0 ≤ x.par ∧ x.par < (k : Int) ∧ Cf.leaf c.nodes x.par = false := fun h0 => by
    have hi := (Cf.check_iff c).1 h0
    have hf := hi.1
    simp only [Cf.frame, Bool.and_eq_true, decide_eq_true_eq] at hf
    refine ⟨hf.1.1.1, Cf.leaves_some h0, fun x hx => Cf.place_zero (Cf.okNode_place (hi.2.1 0 x hx)), fun k x hk hx => ?_⟩
    have hp := Cf.place_pos (by omega) (Cf.okNode_place (hi.2.1 k x hx))
    exact ⟨(hw.2.1 x (List.mem_of_getElem? hx)).1, hp.1, hp.2, Cf.leaf_par hx⟩
  obtain ⟨an, cn, nb, no, ah, ch, hb, ho, rfl, rfl, s1, s2⟩ := h
  have hidx := s1.idx
  have n63 := s1.small
  obtain ⟨q, hq⟩ : ∃ s, Cf.check c = s := ⟨_, rfl⟩
  rw [hq] at ck hgood
  clear hw hq s2
  obtain ⟨kind, nodes, hosts, half, age, g, n⟩ := c
  simp only [Cmd.f] at *
  obtain ⟨L, hL⟩ : ∃ s, Cf.leaves nodes = s := ⟨_, rfl⟩
  rw [hL] at cv hgood
  obtain ⟨ln, hln⟩ : ∃ n, nodes.length = n := ⟨_, rfl⟩
  obtain ⟨lh, hlh⟩ : ∃ n, hosts.length = n := ⟨_, rfl⟩
  rw [hln] at ck cl cv hgood hidx n63 ⊢
  rw [hlh] at ck cl cv ⊢
  obtain ⟨zn, hzn⟩ : ∃ z : Int, (ln : Int) = z := ⟨_, rfl⟩
  have CK := Lib.hid ck; have CL := Lib.hid cl; have CV := Lib.hid cv; have HG := Lib.hid hgood; have HI := Lib.hid hidx; have HS := Lib.hid s1; have HLN := Lib.hid hln
  clear ck cl cv hgood hidx s1 hln hlh hL
  have g0 : Below w.heap.size w (w.alloc (.cells #[.slice an ln cn, .slice ah lh ch, .int .i64 half, .int .i64 age] 25)) := (Below.refl _ _).alloc (Nat.le_refl _) _
  have r0 := Row.new w #[.slice an ln cn, .slice ah lh ch, .int .i64 half, .int .i64 age] 25
  have G0 := Lib.hid g0; have R0 := Lib.hid r0
  clear g0 r0
  go_enter Try.func5, Try.ntmps5
  go_wp2_with fail
  refine (CK.out _ G0.out).mono ?_
  rintro er w1 ⟨rfl, b1⟩
  have G1 := Lib.hid (below_trans G0.out b1); have R1 := Lib.hid (R0.out.under b1); clear b1
  by_cases h0 : q = 0
  · subst h0
    obtain ⟨⟨hn1, hn2⟩, hlv, hpar0, hpar⟩ := HG.out (by trivial)
    have z1 : 1 ≤ zn ∧ zn ≤ 12 := by omega
    obtain ⟨z1, z2⟩ := z1
    have HP := Lib.hid hpar; have HP0 := Lib.hid hpar0
    have CL2 := Lib.hid (fun n hn => CL.out n hn (by omega : ln ≤ 300)); have CV2 := Lib.hid (CV.out (by omega : ln ≤ 300))
    have HQ := Lib.hid (fun w2 (g : Below w1.heap.size w1 w2) => (R1.out.under g).holds)
    clear hpar hpar0 hn1 hn2
    go_wp2_with fail
    go_loopw [3] (fun i wr => ∃ (j : Int), i = .int .i64 j ∧ 1 ≤ j ∧ j ≤ zn ∧ Hid (Below w1.heap.size w1 wr)) (fun i _ => (zn - intOf i).toNat)
    case atStart => exact ⟨1, rfl, by omega, by omega, Below.refl _ _⟩
    case round =>
      obtain ⟨j, rfl, hj1, hjz, hd⟩ := hrel
      have hq := HQ.out wr hd.out
      have k0 : wr.cell? ⟨w.heap.size, 0, none⟩ = some (.slice an ln cn) := hq 0 _ rfl
      have k1 : wr.cell? ⟨w.heap.size, 1, none⟩ = some (.slice ah lh ch) := hq 1 _ rfl
      have k2 : wr.cell? ⟨w.heap.size, 2, none⟩ = some (.int .i64 half) := hq 2 _ rfl
      have k3 : wr.cell? ⟨w.heap.size, 3, none⟩ = some (.int .i64 age) := hq 3 _ rfl
      clear hq
      by_cases hlt : j < zn
      · obtain ⟨x, hx⟩ : ∃ x, nodes[j.toNat]? = some x := ⟨_, List.getElem?_eq_getElem (by have := HLN.out; omega)⟩
        have hi := HI.out j.toNat (by omega)
        rw [show ((j.toNat : Nat) : Int) = j by omega] at hi
        have hc : wr.cell? ⟨nb, no + j.toNat * 11, none⟩ = some (.int .i64 x.par) := (HS.out.kept (below_trans G1.out hd.out)).at_ j.toNat x hx 0 _ rfl
        obtain ⟨p64, p0, p1, pl⟩ := HP.out j.toNat x (by omega) hx
        obtain ⟨oi, hoi⟩ : ∃ n, no + j.toNat * 11 = n := ⟨_, rfl⟩
        obtain ⟨p, hp⟩ : ∃ n, x.par = n := ⟨_, rfl⟩
        rw [hoi] at hi hc
        rw [hp] at hc p64 p0 p1 pl
        rw [show ((j.toNat : Nat) : Int) = j by omega] at p1
        have hcall := CL2.out p p64 wr (below_trans G1.out hd.out)
        rw [pl] at hcall
        have HC := Lib.hid hcall
        clear hcall p64 pl hoi hp hx
        go_wp2_with fail
        refine HC.out.mono ?_
        rintro er w2 ⟨rfl, b2⟩
        have B2 := Lib.hid (below_trans hd.out b2); clear b2 k0 k1 k2 k3 hi hc
        go_wp2_with fail
        go_roundw
        case rel => exact ⟨j + 1, rfl, by omega, by omega, B2.out⟩
        case measure => simp [intOf]; omega
      · go_wp2_with fail
        refine (CV2.out wr (below_trans G1.out hd.out)).mono ?_
        rintro er w2 ⟨ao, cap, bb, oo, rfl, sl, b2⟩
        have B2 := Lib.hid (below_trans (below_trans G1.out hd.out) b2)
        have hq := HQ.out w2 (below_trans hd.out b2)
        clear k0 k1 k2 k3
        have k0 : w2.cell? ⟨w.heap.size, 0, none⟩ = some (.slice an ln cn) := hq 0 _ rfl
        obtain ⟨x, hx⟩ : ∃ x, nodes[0]? = some x := ⟨_, List.getElem?_eq_getElem (by have := HLN.out; omega)⟩
        have hi : ∀ w0, (Instr.indexAt 22 (.slice an ln cn) (.int .i64 0)).run Try.prog w0 = .ok (.pointer (some ⟨nb, no + 0 * 11, none⟩)) w0 := HI.out 0 (by omega)
        have hc : w2.cell? ⟨nb, no + 0 * 11, none⟩ = some (.int .i64 x.par) := (HS.out.kept B2.out).at_ 0 x hx 0 _ rfl
        rw [HP0.out x hx] at hc
        obtain ⟨oi, hoi⟩ : ∃ n, no + 0 * 11 = n := ⟨_, rfl⟩
        rw [hoi] at hi hc
        obtain ⟨LL, hLL⟩ : ∃ n, L.length = n := ⟨_, rfl⟩
        rw [hLL] at hlv ⊢
        obtain ⟨zl, hzl⟩ : ∃ z : Int, (LL : Int) = z := ⟨_, rfl⟩
        have zl0 : 0 < zl := by omega
        clear sl b2 hq hx hoi hLL
        go_wp2_with fail
        refine (cA.out _).mono ?_
        rintro er w3 ⟨rfl, b3⟩
        have B3 := Lib.hid (below_trans B2.out b3); clear b3
        go_wp2_with fail
        go_ret
        exact ⟨rfl, B3.out⟩
  · have h0' : (q != 0) = true := by simpa using h0
    go_wp2_with fail
    refine (cA.out _).mono ?_
    rintro er w2 ⟨rfl, b2⟩
    have G2 := Lib.hid (below_trans G1.out b2); clear b2
    go_wp2_with fail
    go_ret
    exact ⟨rfl, G2.out⟩

end Go.Proofs.Ytmpmnehapildeaa
