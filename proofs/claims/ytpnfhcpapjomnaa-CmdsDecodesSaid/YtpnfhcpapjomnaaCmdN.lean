/- Commands: the statements' walks. -/
import Derived.Test.YtpnfhcpapjomnaaCmdM
namespace Go.Proofs.Ytpnfhcpapjomnaa
open Go.RowKit
set_option linter.unusedVariables false

theorem Holds.row {w : World} {g : Nat} {cs : Array Value} {t : TypeId} {fr : Nat × Nat} (h : w.heap[g]? = some (.cells cs t fr)) {w' : World} (k : Below w.heap.size w w') : ∃ t fr, w'.heap[g]? = some (.cells cs t fr) := ⟨t, fr, (k.block g (lt_of_block h)).trans h⟩

set_option maxHeartbeats 1000000 in
set_option maxRecDepth 8000 in
theorem CmdsChecks_walk (C : CmC) {c : Cmd} {vn vh : Value} {w : World} (h : CmAt c vn vh w) (hw : c.wide) (hn : c.nodes.length ≤ 140737488351232) (hh : c.hosts.length ≤ 140737488351232) :
    Calls Try.prog 3 #[.agg (c.c vn vh)] w (RetBelow (.bool true) w) := by
  have cA := Lib.hid (cAwake_any C)
  have cf := fun w2 (g : Below w.heap.size w w2) => few_any c vn vh w2 (h.kept g) hn hh
  have ce := fun (hfw : c.few) w2 (g : Below w.heap.size w w2) => C.encode c vn vh w2 hw hfw (h.kept g)
  have cr := fun w2 (g : Below w.heap.size w w2) => rEncodeAt (h.kept g)
  have ck := fun (hfw : c.few) w2 (g : Below w.heap.size w w2) => C.check c vn vh w2 hw hfw (h.kept g)
  have cq := fun w2 (g : Below w.heap.size w w2) => rCheckAt (h.kept g)
  obtain ⟨fw, hfw⟩ : ∃ b, decide (c.nodes.length + c.hosts.length ≤ 2000) = b := ⟨_, rfl⟩
  have hfe : fw = true → c.few := fun e => by rw [e] at hfw; exact (of_decide_eq_true hfw : c.nodes.length + c.hosts.length ≤ 2000)
  rw [hfw] at cf
  obtain ⟨an, ln, cn, ah, lh, ch, rfl, rfl⟩ := h.slices
  obtain ⟨s, hs⟩ : ∃ s, (Cm.encode c).1 = s := ⟨_, rfl⟩
  obtain ⟨e, he⟩ : ∃ s, (Cm.encode c).2 = s := ⟨_, rfl⟩
  obtain ⟨q, hq⟩ : ∃ s, Cm.check c = s := ⟨_, rfl⟩
  simp only [hs, he] at ce cr
  simp only [hq] at ck cq
  clear h hw hn hh hfw hs he hq
  obtain ⟨kind, nodes, hosts, half, age, ⟨id, ten, pods, ⟨x, y, z⟩, run, lev, pre⟩, n⟩ := c
  simp only [Cmd.c] at *
  have CF := Lib.hid cf; have CE := Lib.hid (fun (e : fw = true) => ce (hfe e)); have CR := Lib.hid cr; have CK := Lib.hid (fun (e : fw = true) => ck (hfe e)); have CQ := Lib.hid cq
  clear cf ce cr ck cq hfe
  have g0 : Below w.heap.size w (w.alloc (.cells #[.int .i64 kind, .slice an ln cn, .slice ah lh ch, .int .i64 half, .int .i64 age, .int .i64 id, .int .i64 ten, .int .i64 pods, .int .i64 x, .int .i64 y, .int .i64 z, .int .i64 run, .int .i64 lev, .int .i64 pre, .int .i64 n] 31)) := (Below.refl _ _).alloc (Nat.le_refl _) _
  have r0 := Row.new w #[.int .i64 kind, .slice an ln cn, .slice ah lh ch, .int .i64 half, .int .i64 age, .int .i64 id, .int .i64 ten, .int .i64 pods, .int .i64 x, .int .i64 y, .int .i64 z, .int .i64 run, .int .i64 lev, .int .i64 pre, .int .i64 n] 31
  have G0 := Lib.hid g0; have R0 := Lib.hid r0
  clear g0 r0
  go_enter Try.func3, Try.ntmps3
  go_wp2_with fail
  refine (CF.out _ G0.out).mono ?_
  rintro er w1 ⟨rfl, b1⟩
  have G1 := Lib.hid (below_trans G0.out b1); have R1 := Lib.hid (R0.out.under b1); clear b1
  cases fw
  · go_wp2_with fail
    refine (cA.out _).mono ?_
    rintro er w2 ⟨rfl, b2⟩
    have G2 := Lib.hid (below_trans G1.out b2); clear b2
    go_wp2_with fail
    go_ret
    exact ⟨rfl, G2.out⟩
  go_wp2_with (first | (refine wpList_load_row rfl 31 _ rfl w.heap.size rfl _ _ _ _ R1.out Try.underlying31 rfl command_len ?_) | fail)
  refine (CE.out (by trivial) _ G1.out).mono ?_
  rintro er w2 ⟨rfl, b2⟩
  have G2 := Lib.hid (below_trans G1.out b2); have R2 := Lib.hid (R1.out.under b2); clear b2
  go_wp2_with (first | (refine wpList_load_row rfl 31 _ rfl w.heap.size rfl _ _ _ _ R2.out Try.underlying31 rfl command_len ?_) | fail)
  refine (CR.out _ G2.out).mono ?_
  rintro er w3 ⟨rfl, b3⟩
  have G3 := Lib.hid (below_trans G2.out b3); have R3 := Lib.hid (R2.out.under b3); clear b3
  go_wp2_with fail
  have rr := fun w2 (g : Below w3.heap.size w3 w2) => Holds.row R3.out g
  have CK2 := Lib.hid (fun w2 (g : Below w3.heap.size w3 w2) => CK.out (by trivial) w2 (below_trans G3.out g)); have CQ2 := Lib.hid (fun w2 (g : Below w3.heap.size w3 w2) => CQ.out w2 (below_trans G3.out g))
  refine region_quiet (fun w2 => Below w3.heap.size w3 w2) (by kernel_rfl) (by kernel_rfl) (below_drewN (Below.refl _ _) 1) ?_
  repeat (first
    | (go_big_quiet_skip)
    | (refine quiet_row _ _ 31 _ _ rr rfl rfl ?_ Try.underlying31 rfl ?_ ?_; (focus kernel_rfl); (focus kernel_rfl); simp only [Act.put, List.setIfInBounds_toArray, List.set_cons_zero, List.set_cons_succ])
    | (go_big_quiet_step ((intro g2; first
      | (with_reducible rfl)
      | (with_reducible exact quiet_below g2 (CK2.out _ g2))
      | (with_reducible exact quiet_below g2 (CQ2.out _ g2))
      | (with_reducible exact quiet_below g2 (cA.out _))))))
  refine wpQuiet_nil ?_
  intro w4 g4
  have G4 := Lib.hid (below_trans G3.out g4); clear g4 rr
  go_wp2_with fail
  go_ret
  exact ⟨rfl, G4.out⟩

set_option maxHeartbeats 1000000 in
set_option maxRecDepth 8000 in
theorem CmdsDecodes_walk (C : CmC) (s : ByteArray) (hs : s.size ≤ maxLen) (w : World) : Calls Try.prog 4 #[.string s] w (RetBelow (.bool true) w) := by
  have cA := Lib.hid (cAwake_any C)
  have c1 := fun w => C.decode s w hs
  have c2 := fun w => rDecode_any s w
  obtain ⟨⟨c, e⟩, hd⟩ : ∃ d, Cm.decode s = d := ⟨_, rfl⟩
  rw [hd] at c1 c2
  simp only at c1 c2
  clear hd
  have cs := fun (va ha vb hb : Value) w (h1 : CmAt c va ha w) (h2 : CmAt c vb hb w) => rSameAt h1 h2
  rw [show decide (c = c) = true by simp] at cs
  obtain ⟨sz, hz⟩ : ∃ z : Int, (s.size : Int) = z := ⟨_, rfl⟩
  have hz0 : 0 ≤ sz ∧ sz ≤ 9223372036854775807 := by unfold maxLen at hs; omega
  obtain ⟨hz0, hz1⟩ := hz0
  clear hs
  obtain ⟨kind, nodes, hosts, half, age, ⟨id, ten, pods, ⟨x, y, z⟩, run, lev, pre⟩, n⟩ := c
  simp only [Cmd.c] at c1 c2 cs
  have C1 := Lib.hid c1; have C2 := Lib.hid c2; have CS := Lib.hid cs
  clear c1 c2 cs
  by_cases hbig : 20000 < sz
  · go_enter Try.func4, Try.ntmps4
    go_wp2_with fail
    refine (cA.out _).mono ?_
    rintro er w2 ⟨rfl, b2⟩
    have G2 := Lib.hid b2; clear b2
    go_wp2_with fail
    go_ret
    exact ⟨rfl, G2.out⟩
  · go_enter Try.func4, Try.ntmps4
    go_wp2_with fail
    refine (C1.out _).mono ?_
    rintro er w1 ⟨vn, vh, rfl, h1, b1⟩
    obtain ⟨an, ln, cn, ah, lh, ch, rfl, rfl⟩ := h1.slices
    have g1 : Below w1.heap.size w1 (w1.alloc (.cells #[.int .i64 kind, .slice an ln cn, .slice ah lh ch, .int .i64 half, .int .i64 age, .int .i64 id, .int .i64 ten, .int .i64 pods, .int .i64 x, .int .i64 y, .int .i64 z, .int .i64 run, .int .i64 lev, .int .i64 pre, .int .i64 n] 31)) := (Below.refl _ _).alloc (Nat.le_refl _) _
    have G1 := Lib.hid (below_trans b1 g1); have R1 := Lib.hid (Row.new w1 #[.int .i64 kind, .slice an ln cn, .slice ah lh ch, .int .i64 half, .int .i64 age, .int .i64 id, .int .i64 ten, .int .i64 pods, .int .i64 x, .int .i64 y, .int .i64 z, .int .i64 run, .int .i64 lev, .int .i64 pre, .int .i64 n] 31); have H1 := Lib.hid (h1.kept g1)
    clear b1 g1 h1
    go_wp2_with fail
    refine (C2.out _).mono ?_
    rintro er w2 ⟨vn', vh', rfl, h2, b2⟩
    obtain ⟨an', ln', cn', ah', lh', ch', rfl, rfl⟩ := h2.slices
    have g2 : Below w2.heap.size w2 (w2.alloc (.cells #[.int .i64 kind, .slice an' ln' cn', .slice ah' lh' ch', .int .i64 half, .int .i64 age, .int .i64 id, .int .i64 ten, .int .i64 pods, .int .i64 x, .int .i64 y, .int .i64 z, .int .i64 run, .int .i64 lev, .int .i64 pre, .int .i64 n] 31)) := (Below.refl _ _).alloc (Nat.le_refl _) _
    have G2 := Lib.hid (below_trans (below_trans G1.out b2) g2); have R2 := Lib.hid ((R1.out.under b2).under g2); have Q2 := Lib.hid (Row.new w2 #[.int .i64 kind, .slice an' ln' cn', .slice ah' lh' ch', .int .i64 half, .int .i64 age, .int .i64 id, .int .i64 ten, .int .i64 pods, .int .i64 x, .int .i64 y, .int .i64 z, .int .i64 run, .int .i64 lev, .int .i64 pre, .int .i64 n] 31)
    have H2 := Lib.hid (h2.kept g2); have K2 := Lib.hid ((H1.out.kept b2).kept g2)
    clear b2 g2 h2
    go_wp2_with (first
      | (refine wpList_load_row rfl 31 _ rfl w1.heap.size rfl _ _ _ _ R2.out Try.underlying31 rfl command_len ?_)
      | (refine wpList_load_row rfl 31 _ rfl w2.heap.size rfl _ _ _ _ Q2.out Try.underlying31 rfl command_len ?_)
      | fail)
    refine (CS.out _ _ _ _ _ K2.out H2.out).mono ?_
    rintro er w3 ⟨rfl, b3⟩
    have G3 := Lib.hid (below_trans G2.out b3); clear b3
    go_wp2_with fail
    refine (cA.out _).mono ?_
    rintro er w4 ⟨rfl, b4⟩
    have G4 := Lib.hid (below_trans G3.out b4); clear b4
    go_wp2_with fail
    go_ret
    exact ⟨rfl, G4.out⟩

end Go.Proofs.Ytpnfhcpapjomnaa
