/- Commands: the statements' walks, the other three. -/
import Derived.Test.YtpnfhcpapjomnaaCmdN
namespace Go.Proofs.Ytpnfhcpapjomnaa
open Go.RowKit
set_option linter.unusedVariables false

theorem put_small {c : Cmd} (h : Cm.check c = 0) : (Cm.put c).size ≤ maxLen := by
  obtain ⟨hf, hn, hh⟩ := Cm.check_zero h
  obtain ⟨o1, o2, o3⟩ := check_all h
  have hk := Cm.fine_kind hf
  have z0 := Cm.pn_size c.kind (by omega)
  unfold Cm.put maxLen
  rw [ByteArray.size_append]
  by_cases k1 : c.kind = 1
  · rw [if_pos k1]
    have := Cm.pC_size (o1 k1) hn hh
    omega
  rw [if_neg k1]
  by_cases k2 : c.kind = 2
  · rw [if_pos k2]
    have := Cm.pG_size (o2 k2)
    omega
  rw [if_neg k2]
  by_cases k6 : c.kind = 6
  · rw [if_pos k6]
    have : (⟨#[]⟩ : ByteArray).size = 0 := rfl
    omega
  · rw [if_neg k6]
    have := Cm.pn_size c.n (Cm.ok_lt (o3 (by omega)))
    omega

set_option maxHeartbeats 1000000 in
set_option maxRecDepth 8000 in
theorem CmdsBack_walk (C : CmC) {c : Cmd} {vn vh : Value} {w : World} (h : CmAt c vn vh w) (hw : c.wide) (hn : c.nodes.length ≤ 140737488351232) (hh : c.hosts.length ≤ 140737488351232) :
    Calls Try.prog 5 #[.agg (c.c vn vh)] w (RetBelow (.bool true) w) := by
  have cA := Lib.hid (cAwake_any C)
  have cf := fun w2 (g : Below w.heap.size w w2) => few_any c vn vh w2 (h.kept g) hn hh
  have ce := fun (hfw : c.few) w2 (g : Below w.heap.size w w2) => C.encode c vn vh w2 hw hfw (h.kept g)
  have hat := fun w2 (g : Below w.heap.size w w2) => h.kept g
  obtain ⟨fw, hfw⟩ : ∃ b, decide (c.nodes.length + c.hosts.length ≤ 2000) = b := ⟨_, rfl⟩
  have hfe : fw = true → c.few := fun e => by rw [e] at hfw; exact (of_decide_eq_true hfw : c.nodes.length + c.hosts.length ≤ 2000)
  rw [hfw] at cf
  have cs := fun (va ha vb hb : Value) w (h1 : CmAt c va ha w) (h2 : CmAt c vb hb w) => rSameAt h1 h2
  rw [show decide (c = c) = true by simp] at cs
  obtain ⟨an, ln, cn, ah, lh, ch, rfl, rfl⟩ := h.slices
  have henc : Cm.encode c = if Cm.check c ≠ 0 then (⟨#[]⟩, Cm.check c) else (Cm.put c, 0) := rfl
  have cd := fun (h0 : Cm.check c = 0) w => C.decode (Cm.put c) w (put_small h0)
  have hd := fun (h0 : Cm.check c = 0) => Cm.decode_put h0
  obtain ⟨q, hq⟩ : ∃ s, Cm.check c = s := ⟨_, rfl⟩
  obtain ⟨s, hs⟩ : ∃ s, Cm.put c = s := ⟨_, rfl⟩
  rw [hq, hs] at henc
  rw [henc] at ce
  rw [hs] at cd hd
  rw [hq] at cd hd
  clear h hw hn hh hfw hs hq henc
  obtain ⟨kind, nodes, hosts, half, age, ⟨id, ten, pods, ⟨x, y, z⟩, run, lev, pre⟩, n⟩ := c
  simp only [Cmd.c] at *
  have CF := Lib.hid cf; have CE := Lib.hid (fun (e : fw = true) => ce (hfe e)); have CS := Lib.hid cs; have CD := Lib.hid cd; have HD := Lib.hid hd; have HAT := Lib.hid hat
  clear cf ce cs cd hd hat hfe
  have g0 : Below w.heap.size w (w.alloc (.cells #[.int .i64 kind, .slice an ln cn, .slice ah lh ch, .int .i64 half, .int .i64 age, .int .i64 id, .int .i64 ten, .int .i64 pods, .int .i64 x, .int .i64 y, .int .i64 z, .int .i64 run, .int .i64 lev, .int .i64 pre, .int .i64 n] 31)) := (Below.refl _ _).alloc (Nat.le_refl _) _
  have r0 := Row.new w #[.int .i64 kind, .slice an ln cn, .slice ah lh ch, .int .i64 half, .int .i64 age, .int .i64 id, .int .i64 ten, .int .i64 pods, .int .i64 x, .int .i64 y, .int .i64 z, .int .i64 run, .int .i64 lev, .int .i64 pre, .int .i64 n] 31
  have G0 := Lib.hid g0; have R0 := Lib.hid r0
  clear g0 r0
  go_enter Try.func5, Try.ntmps5
  go_wp2_with fail
  refine (CF.out _ G0.out).mono ?_
  rintro er w1 ⟨rfl, b1⟩
  have G1 := Lib.hid (below_trans G0.out b1); have R1 := Lib.hid (R0.out.under b1); clear b1
  cases fw
  · go_wp2_with fail
    refine (cA.out _).mono ?_
    rintro er w2 ⟨rfl, b2⟩
    have G2 := Lib.hid (below_trans G1.out b2); clear b2
    go_wp2_with fail
    go_ret
    exact ⟨rfl, G2.out⟩
  by_cases h0 : q = 0
  · subst h0
    have ce := CE.out (by trivial)
    simp only [ne_eq, not_true, ite_false] at ce
    have CE2 := Lib.hid ce; clear ce
    go_wp2_with (first | (refine wpList_load_row rfl 31 _ rfl w.heap.size rfl _ _ _ _ R1.out Try.underlying31 rfl command_len ?_) | fail)
    refine (CE2.out _ G1.out).mono ?_
    rintro er w2 ⟨rfl, b2⟩
    have G2 := Lib.hid (below_trans G1.out b2); have R2 := Lib.hid (R1.out.under b2); clear b2
    have cd := CD.out (by trivial)
    rw [HD.out (by trivial)] at cd
    simp only at cd
    have CD2 := Lib.hid cd; clear cd
    go_wp2_with fail
    refine (CD2.out _).mono ?_
    rintro er w3 ⟨vn', vh', rfl, h3, b3⟩
    obtain ⟨an', ln', cn', ah', lh', ch', rfl, rfl⟩ := h3.slices
    have g3 : Below w3.heap.size w3 (w3.alloc (.cells #[.int .i64 kind, .slice an' ln' cn', .slice ah' lh' ch', .int .i64 half, .int .i64 age, .int .i64 id, .int .i64 ten, .int .i64 pods, .int .i64 x, .int .i64 y, .int .i64 z, .int .i64 run, .int .i64 lev, .int .i64 pre, .int .i64 n] 31)) := (Below.refl _ _).alloc (Nat.le_refl _) _
    have G3 := Lib.hid (below_trans (below_trans G2.out b3) g3); have R3 := Lib.hid ((R2.out.under b3).under g3); have Q3 := Lib.hid (Row.new w3 #[.int .i64 kind, .slice an' ln' cn', .slice ah' lh' ch', .int .i64 half, .int .i64 age, .int .i64 id, .int .i64 ten, .int .i64 pods, .int .i64 x, .int .i64 y, .int .i64 z, .int .i64 run, .int .i64 lev, .int .i64 pre, .int .i64 n] 31)
    have H3 := Lib.hid (h3.kept g3)
    clear b3 g3 h3
    go_wp2_with (first
      | (refine wpList_load_row rfl 31 _ rfl w.heap.size rfl _ _ _ _ R3.out Try.underlying31 rfl command_len ?_)
      | (refine wpList_load_row rfl 31 _ rfl w3.heap.size rfl _ _ _ _ Q3.out Try.underlying31 rfl command_len ?_)
      | fail)
    refine (CS.out _ _ _ _ _ (HAT.out _ G3.out) H3.out).mono ?_
    rintro er w4 ⟨rfl, b4⟩
    have G4 := Lib.hid (below_trans G3.out b4); clear b4
    go_wp2_with fail
    refine (cA.out _).mono ?_
    rintro er w5 ⟨rfl, b5⟩
    have G5 := Lib.hid (below_trans G4.out b5); clear b5
    go_wp2_with fail
    go_ret
    exact ⟨rfl, G5.out⟩
  · have ce := CE.out (by trivial)
    simp only [ne_eq, h0, not_false_eq_true, ite_true] at ce
    have CE2 := Lib.hid ce; clear ce
    have h0' : (q != 0) = true := by simpa using h0
    go_wp2_with (first | (refine wpList_load_row rfl 31 _ rfl w.heap.size rfl _ _ _ _ R1.out Try.underlying31 rfl command_len ?_) | fail)
    refine (CE2.out _ G1.out).mono ?_
    rintro er w2 ⟨rfl, b2⟩
    have G2 := Lib.hid (below_trans G1.out b2); clear b2
    go_wp2_with fail
    refine (cA.out _).mono ?_
    rintro er w3 ⟨rfl, b3⟩
    have G3 := Lib.hid (below_trans G2.out b3); clear b3
    go_wp2_with fail
    go_ret
    exact ⟨rfl, G3.out⟩

set_option maxHeartbeats 1000000 in
set_option maxRecDepth 8000 in
theorem CmdsOnly_walk (C : CmC) (s : ByteArray) (hs : s.size ≤ maxLen) (w : World) : Calls Try.prog 6 #[.string s] w (RetBelow (.bool true) w) := by
  have cA := Lib.hid (cAwake_any C)
  have c1 := fun w => C.decode s w hs
  rcases decode_two s with hd | ⟨h1, h2, h3⟩
  · rw [hd] at c1
    simp only [Cmd.c, Cm.zero, Cm.zG] at c1
    have C1 := Lib.hid c1; clear c1 hd
    go_enter Try.func6, Try.ntmps6
    go_wp2_with fail
    refine (C1.out _).mono ?_
    rintro er w1 ⟨vn, vh, rfl, h1, b1⟩
    obtain ⟨an, ln, cn, ah, lh, ch, rfl, rfl⟩ := h1.slices
    have B1 := Lib.hid b1; clear b1 h1
    go_wp2_with fail
    refine (cA.out _).mono ?_
    rintro er w2 ⟨rfl, b2⟩
    have G2 := Lib.hid (below_trans (B1.out.alloc B1.out.size _) b2); clear b2
    go_wp2_with fail
    go_ret
    exact ⟨rfl, G2.out⟩
  · rw [h1] at c1
    obtain ⟨c, hc⟩ : ∃ c, (Cm.decode s).1 = c := ⟨_, rfl⟩
    rw [hc] at c1 h2 h3
    have ce := fun vn vh w h => C.encode c vn vh w (wide_check h2) (few_check h2) h
    have henc : Cm.encode c = (s, 0) := by unfold Cm.encode; rw [if_neg (by rw [h2]; simp), h3]
    rw [henc] at ce
    simp only at ce
    clear henc h1 h2 h3 hc hs
    obtain ⟨kind, nodes, hosts, half, age, ⟨id, ten, pods, ⟨x, y, z⟩, run, lev, pre⟩, n⟩ := c
    simp only [Cmd.c] at c1 ce
    have C1 := Lib.hid c1; have CE := Lib.hid ce; clear c1 ce
    go_enter Try.func6, Try.ntmps6
    go_wp2_with fail
    refine (C1.out _).mono ?_
    rintro er w1 ⟨vn, vh, rfl, h1, b1⟩
    obtain ⟨an, ln, cn, ah, lh, ch, rfl, rfl⟩ := h1.slices
    have g1 : Below w1.heap.size w1 (w1.alloc (.cells #[.int .i64 kind, .slice an ln cn, .slice ah lh ch, .int .i64 half, .int .i64 age, .int .i64 id, .int .i64 ten, .int .i64 pods, .int .i64 x, .int .i64 y, .int .i64 z, .int .i64 run, .int .i64 lev, .int .i64 pre, .int .i64 n] 31)) := (Below.refl _ _).alloc (Nat.le_refl _) _
    have G1 := Lib.hid (below_trans b1 g1); have H1 := Lib.hid (h1.kept g1)
    clear b1 g1 h1
    go_wp2_with fail
    refine (CE.out _ _ _ H1.out).mono ?_
    rintro er w2 ⟨rfl, b2⟩
    have G2 := Lib.hid (below_trans G1.out b2); clear b2
    go_wp2_with fail
    refine (cA.out _).mono ?_
    rintro er w3 ⟨rfl, b3⟩
    have G3 := Lib.hid (below_trans G2.out b3); clear b3
    go_wp2_with fail
    go_ret
    exact ⟨rfl, G3.out⟩

set_option maxHeartbeats 1000000 in
set_option maxRecDepth 8000 in
theorem CmdsSame_walk (C : CmC) {c d : Cmd} {vn vh un uh : Value} {w : World} (h : CmAt c vn vh w) (hw : c.wide) (hn : c.nodes.length ≤ 140737488351232) (hh : c.hosts.length ≤ 140737488351232)
    (h' : CmAt d un uh w) (hw' : d.wide) (hn' : d.nodes.length ≤ 140737488351232) (hh' : d.hosts.length ≤ 140737488351232) :
    Calls Try.prog 7 #[.agg (c.c vn vh), .agg (d.c un uh)] w (RetBelow (.bool true) w) := by
  have cA := Lib.hid (cAwake_any C)
  have cf := fun w2 (g : Below w.heap.size w w2) => few_any c vn vh w2 (h.kept g) hn hh
  have cf' := fun w2 (g : Below w.heap.size w w2) => few_any d un uh w2 (h'.kept g) hn' hh'
  have c1 := fun (e : c.few) (e' : d.few) w2 (g : Below w.heap.size w w2) => C.same c d vn vh un uh w2 hw e hw' e' (h.kept g) (h'.kept g)
  have c2 := fun w2 (g : Below w.heap.size w w2) => rSameAt (h.kept g) (h'.kept g)
  have c3 := fun (e : c.few) w2 (g : Below w.heap.size w w2) => C.same c c vn vh vn vh w2 hw e hw e (h.kept g) (h.kept g)
  rw [show decide (c = c) = true by simp] at c3
  obtain ⟨fw, hfw⟩ : ∃ b, decide (c.nodes.length + c.hosts.length ≤ 2000) = b := ⟨_, rfl⟩
  have hfe : fw = true → c.few := fun e => by rw [e] at hfw; exact (of_decide_eq_true hfw : c.nodes.length + c.hosts.length ≤ 2000)
  obtain ⟨fv, hfv⟩ : ∃ b, decide (d.nodes.length + d.hosts.length ≤ 2000) = b := ⟨_, rfl⟩
  have hfe' : fv = true → d.few := fun e => by rw [e] at hfv; exact (of_decide_eq_true hfv : d.nodes.length + d.hosts.length ≤ 2000)
  rw [hfw] at cf
  rw [hfv] at cf'
  obtain ⟨r, hr⟩ : ∃ b, decide (c = d) = b := ⟨_, rfl⟩
  rw [hr] at c1 c2
  obtain ⟨an, ln, cn, ah, lh, ch, rfl, rfl⟩ := h.slices
  obtain ⟨an', ln', cn', ah', lh', ch', rfl, rfl⟩ := h'.slices
  clear h hw hn hh hfw h' hw' hn' hh' hfv hr
  obtain ⟨kind, nodes, hosts, half, age, ⟨id, ten, pods, ⟨x, y, z⟩, run, lev, pre⟩, n⟩ := c
  obtain ⟨kind', nodes', hosts', half', age', ⟨id', ten', pods', ⟨x', y', z'⟩, run', lev', pre'⟩, n'⟩ := d
  simp only [Cmd.c] at *
  have CF := Lib.hid cf; have CF' := Lib.hid cf'; have C1 := Lib.hid (fun (e : fw = true) (e' : fv = true) => c1 (hfe e) (hfe' e')); have C2 := Lib.hid c2; have C3 := Lib.hid (fun (e : fw = true) => c3 (hfe e))
  clear cf cf' c1 c2 c3 hfe hfe'
  have g0 : Below w.heap.size w ((w.alloc (.cells #[.int .i64 kind, .slice an ln cn, .slice ah lh ch, .int .i64 half, .int .i64 age, .int .i64 id, .int .i64 ten, .int .i64 pods, .int .i64 x, .int .i64 y, .int .i64 z, .int .i64 run, .int .i64 lev, .int .i64 pre, .int .i64 n] 31)).alloc (.cells #[.int .i64 kind', .slice an' ln' cn', .slice ah' lh' ch', .int .i64 half', .int .i64 age', .int .i64 id', .int .i64 ten', .int .i64 pods', .int .i64 x', .int .i64 y', .int .i64 z', .int .i64 run', .int .i64 lev', .int .i64 pre', .int .i64 n'] 31)) := two_below _ _ _
  have r0 : Row ((w.alloc (.cells #[.int .i64 kind, .slice an ln cn, .slice ah lh ch, .int .i64 half, .int .i64 age, .int .i64 id, .int .i64 ten, .int .i64 pods, .int .i64 x, .int .i64 y, .int .i64 z, .int .i64 run, .int .i64 lev, .int .i64 pre, .int .i64 n] 31)).alloc (.cells #[.int .i64 kind', .slice an' ln' cn', .slice ah' lh' ch', .int .i64 half', .int .i64 age', .int .i64 id', .int .i64 ten', .int .i64 pods', .int .i64 x', .int .i64 y', .int .i64 z', .int .i64 run', .int .i64 lev', .int .i64 pre', .int .i64 n'] 31)) w.heap.size #[.int .i64 kind, .slice an ln cn, .slice ah lh ch, .int .i64 half, .int .i64 age, .int .i64 id, .int .i64 ten, .int .i64 pods, .int .i64 x, .int .i64 y, .int .i64 z, .int .i64 run, .int .i64 lev, .int .i64 pre, .int .i64 n] 31 := (Row.new w #[.int .i64 kind, .slice an ln cn, .slice ah lh ch, .int .i64 half, .int .i64 age, .int .i64 id, .int .i64 ten, .int .i64 pods, .int .i64 x, .int .i64 y, .int .i64 z, .int .i64 run, .int .i64 lev, .int .i64 pre, .int .i64 n] 31).under ((Below.refl _ _).alloc (Nat.le_refl _) _)
  have q0 : Row ((w.alloc (.cells #[.int .i64 kind, .slice an ln cn, .slice ah lh ch, .int .i64 half, .int .i64 age, .int .i64 id, .int .i64 ten, .int .i64 pods, .int .i64 x, .int .i64 y, .int .i64 z, .int .i64 run, .int .i64 lev, .int .i64 pre, .int .i64 n] 31)).alloc (.cells #[.int .i64 kind', .slice an' ln' cn', .slice ah' lh' ch', .int .i64 half', .int .i64 age', .int .i64 id', .int .i64 ten', .int .i64 pods', .int .i64 x', .int .i64 y', .int .i64 z', .int .i64 run', .int .i64 lev', .int .i64 pre', .int .i64 n'] 31)) (w.heap.size + 1) #[.int .i64 kind', .slice an' ln' cn', .slice ah' lh' ch', .int .i64 half', .int .i64 age', .int .i64 id', .int .i64 ten', .int .i64 pods', .int .i64 x', .int .i64 y', .int .i64 z', .int .i64 run', .int .i64 lev', .int .i64 pre', .int .i64 n'] 31 := by
    have := Row.new (w.alloc (.cells #[.int .i64 kind, .slice an ln cn, .slice ah lh ch, .int .i64 half, .int .i64 age, .int .i64 id, .int .i64 ten, .int .i64 pods, .int .i64 x, .int .i64 y, .int .i64 z, .int .i64 run, .int .i64 lev, .int .i64 pre, .int .i64 n] 31)) #[.int .i64 kind', .slice an' ln' cn', .slice ah' lh' ch', .int .i64 half', .int .i64 age', .int .i64 id', .int .i64 ten', .int .i64 pods', .int .i64 x', .int .i64 y', .int .i64 z', .int .i64 run', .int .i64 lev', .int .i64 pre', .int .i64 n'] 31
    rwa [World.size_alloc] at this
  have G0 := Lib.hid g0; have R0 := Lib.hid r0; have Q0 := Lib.hid q0
  clear g0 r0 q0
  go_enter Try.func7, Try.ntmps7
  go_wp2_with fail
  refine (CF.out _ G0.out).mono ?_
  rintro er w1 ⟨rfl, b1⟩
  have G1 := Lib.hid (below_trans G0.out b1); have R1 := Lib.hid (R0.out.under b1); have Q1 := Lib.hid (Q0.out.under b1); clear b1
  cases fw
  · go_wp2_with fail
    refine (cA.out _).mono ?_
    rintro er w2 ⟨rfl, b2⟩
    have G2 := Lib.hid (below_trans G1.out b2); clear b2
    go_wp2_with fail
    go_ret
    exact ⟨rfl, G2.out⟩
  have c0 : w1.cell? ⟨w.heap.size + 1, 0, none⟩ = some (.int .i64 kind') := Q1.out.at_ 0
  have c1 : w1.cell? ⟨w.heap.size + 1, 1, none⟩ = some (.slice an' ln' cn') := Q1.out.at_ 1
  have c2 : w1.cell? ⟨w.heap.size + 1, 2, none⟩ = some (.slice ah' lh' ch') := Q1.out.at_ 2
  have c3 : w1.cell? ⟨w.heap.size + 1, 3, none⟩ = some (.int .i64 half') := Q1.out.at_ 3
  have c4 : w1.cell? ⟨w.heap.size + 1, 4, none⟩ = some (.int .i64 age') := Q1.out.at_ 4
  have c5 : w1.cell? ⟨w.heap.size + 1, 5, none⟩ = some (.int .i64 id') := Q1.out.at_ 5
  have c6 : w1.cell? ⟨w.heap.size + 1, 6, none⟩ = some (.int .i64 ten') := Q1.out.at_ 6
  have c7 : w1.cell? ⟨w.heap.size + 1, 7, none⟩ = some (.int .i64 pods') := Q1.out.at_ 7
  have c8 : w1.cell? ⟨w.heap.size + 1, 8, none⟩ = some (.int .i64 x') := Q1.out.at_ 8
  have c9 : w1.cell? ⟨w.heap.size + 1, 9, none⟩ = some (.int .i64 y') := Q1.out.at_ 9
  have c10 : w1.cell? ⟨w.heap.size + 1, 10, none⟩ = some (.int .i64 z') := Q1.out.at_ 10
  have c11 : w1.cell? ⟨w.heap.size + 1, 11, none⟩ = some (.int .i64 run') := Q1.out.at_ 11
  have c12 : w1.cell? ⟨w.heap.size + 1, 12, none⟩ = some (.int .i64 lev') := Q1.out.at_ 12
  have c13 : w1.cell? ⟨w.heap.size + 1, 13, none⟩ = some (.int .i64 pre') := Q1.out.at_ 13
  have c14 : w1.cell? ⟨w.heap.size + 1, 14, none⟩ = some (.int .i64 n') := Q1.out.at_ 14
  go_wp2_with fail
  refine (CF'.out _ G1.out).mono ?_
  rintro er w2 ⟨rfl, b2⟩
  have G2 := Lib.hid (below_trans G1.out b2); have R2 := Lib.hid (R1.out.under b2); have Q2 := Lib.hid (Q1.out.under b2); clear b2
  clear c0 c1 c2 c3 c4 c5 c6 c7 c8 c9 c10 c11 c12 c13 c14
  cases fv
  · go_wp2_with fail
    refine (cA.out _).mono ?_
    rintro er w3 ⟨rfl, b3⟩
    have G3 := Lib.hid (below_trans G2.out b3); clear b3
    go_wp2_with fail
    go_ret
    exact ⟨rfl, G3.out⟩
  go_wp2_with fail
  have rr := fun w3 (g : Below w2.heap.size w2 w3) => Holds.row R2.out g
  have rq := fun w3 (g : Below w2.heap.size w2 w3) => Holds.row Q2.out g
  have K1 := Lib.hid (fun w3 (g : Below w2.heap.size w2 w3) => C1.out (by trivial) (by trivial) w3 (below_trans G2.out g)); have K2 := Lib.hid (fun w3 (g : Below w2.heap.size w2 w3) => C2.out w3 (below_trans G2.out g)); have K3 := Lib.hid (fun w3 (g : Below w2.heap.size w2 w3) => C3.out (by trivial) w3 (below_trans G2.out g))
  refine region_quiet (fun w3 => Below w2.heap.size w2 w3) (by kernel_rfl) (by kernel_rfl) (below_drewN (Below.refl _ _) 1) ?_
  repeat (first
    | (go_big_quiet_skip)
    | (refine quiet_row _ _ 31 _ _ rr rfl rfl ?_ Try.underlying31 rfl ?_ ?_; (focus kernel_rfl); (focus kernel_rfl); simp only [Act.put, List.setIfInBounds_toArray, List.set_cons_zero, List.set_cons_succ])
    | (refine quiet_row _ _ 31 _ _ rq rfl rfl ?_ Try.underlying31 rfl ?_ ?_; (focus kernel_rfl); (focus kernel_rfl); simp only [Act.put, List.setIfInBounds_toArray, List.set_cons_zero, List.set_cons_succ])
    | (go_big_quiet_step ((intro g2; first
      | (with_reducible rfl)
      | (with_reducible exact quiet_below g2 (K1.out _ g2))
      | (with_reducible exact quiet_below g2 (K2.out _ g2))
      | (with_reducible exact quiet_below g2 (K3.out _ g2))
      | (with_reducible exact quiet_below g2 (cA.out _))))))
  refine wpQuiet_nil ?_
  intro w4 g4
  have G4 := Lib.hid (below_trans G2.out g4); clear g4 rr rq
  go_wp2_with fail
  go_ret
  exact ⟨rfl, G4.out⟩

end Go.Proofs.Ytpnfhcpapjomnaa
