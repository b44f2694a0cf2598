/- The landed configuration: Check; a tenant. -/
import Derived.Test.YtmpmnehapildeaaKcE
import Derived.Test.YtmpmnehapildeaaCfgC
namespace Go.Proofs.Ytmpmnehapildeaa
open Go.RowKit
set_option linter.unusedVariables false

theorem Cf.check_parts (c : Cmd) : Cf.check c = if ((decide (1 ≤ c.nodes.length ∧ c.nodes.length ≤ 12) && Cf.allFrom c.nodes 0 c.nodes) && (decide (1 ≤ c.hosts.length ∧ c.hosts.length ≤ 24) && c.hosts.all Cf.okHost) && decide (1 ≤ c.half ∧ c.half ≤ 1048576) && decide (0 ≤ c.age ∧ c.age ≤ 1048576)) = true then 0 else 2 := by
  unfold Cf.check Cf.frame
  congr 1
  rw [eq_iff_iff]
  simp only [Bool.and_eq_true]
  constructor
  · rintro ⟨⟨⟨⟨⟨h1, h2⟩, h3⟩, h4⟩, h5⟩, h6⟩; exact ⟨⟨⟨⟨h1, h5⟩, ⟨h2, h6⟩⟩, h3⟩, h4⟩
  · rintro ⟨⟨⟨⟨h1, h5⟩, ⟨h2, h6⟩⟩, h3⟩, h4⟩; exact ⟨⟨⟨⟨⟨h1, h2⟩, h3⟩, h4⟩, h5⟩, h6⟩

set_option maxRecDepth 4000 in
theorem kCheck (c : Cmd) (vn vh : Value) (w : World) (h : CmAt c vn vh w) : Calls Try.prog 8 #[.agg (c.f vn vh)] w (RetBelow (.int .i64 (Cf.check c)) w) := by
  obtain ⟨an, cn, nb, no, ah, ch, hb, ho, rfl, rfl, s1, s2⟩ := h
  have hk := Cf.check_parts c
  obtain ⟨K, hK⟩ : ∃ k, Cf.check c = k := ⟨_, rfl⟩
  rw [hK] at hk ⊢
  have c1 := fun w2 (g : Below w.heap.size w w2) => kNodes c.nodes an cn nb no w2 (s1.kept g)
  have c2 := fun w2 (g : Below w.heap.size w w2) => kHosts c.hosts ah ch hb ho w2 (s2.kept g)
  have c3 := fun w => kWithin c.half 1 1048576 w
  have c4 := fun w => kWithin c.age 0 1048576 w
  obtain ⟨m1, e1⟩ : ∃ b, (decide (1 ≤ c.nodes.length ∧ c.nodes.length ≤ 12) && Cf.allFrom c.nodes 0 c.nodes) = b := ⟨_, rfl⟩
  obtain ⟨m2, e2⟩ : ∃ b, (decide (1 ≤ c.hosts.length ∧ c.hosts.length ≤ 24) && c.hosts.all Cf.okHost) = b := ⟨_, rfl⟩
  obtain ⟨m3, e3⟩ : ∃ b, decide (1 ≤ c.half ∧ c.half ≤ 1048576) = b := ⟨_, rfl⟩
  obtain ⟨m4, e4⟩ : ∃ b, decide (0 ≤ c.age ∧ c.age ≤ 1048576) = b := ⟨_, rfl⟩
  rw [e1] at c1 hk
  rw [e2] at c2 hk
  rw [e3] at c3 hk
  rw [e4] at c4 hk
  obtain ⟨kind, nodes, hosts, half, age, g, n⟩ := c
  simp only [Cmd.f] at *
  obtain ⟨nl, hnl⟩ : ∃ n, nodes.length = n := ⟨_, rfl⟩
  obtain ⟨hl, hhl⟩ : ∃ n, hosts.length = n := ⟨_, rfl⟩
  rw [hnl] at c1 ⊢
  rw [hhl] at c2 ⊢
  have C1 := Lib.hid c1; have C2 := Lib.hid c2; have C3 := Lib.hid c3; have C4 := Lib.hid c4; have HK := Lib.hid hk
  clear c1 c2 c3 c4 hk e1 e2 e3 e4 hK s1 s2 hnl hhl
  have G0 := Lib.hid ((Below.refl w.heap.size w).alloc (Nat.le_refl _) (.cells #[.slice an nl cn, .slice ah hl ch, .int .i64 half, .int .i64 age] 25))
  have HH0 := Lib.hid (Holds.new w #[.slice an nl cn, .slice ah hl ch, .int .i64 half, .int .i64 age] 25)
  have L0 := Lib.hid (show w.heap.size < (w.alloc (.cells #[.slice an nl cn, .slice ah hl ch, .int .i64 half, .int .i64 age] 25)).heap.size by rw [World.size_alloc]; omega)
  go_enter Try.func8, Try.ntmps8
  go_wp2_with fail
  refine (C1.out _ G0.out).mono ?_
  rintro er w1 ⟨rfl, b1⟩
  have G1 := Lib.hid (below_trans G0.out b1); have H1 := Lib.hid (HH0.out.kept L0.out b1); have L1 := Lib.hid (Nat.lt_of_lt_of_le L0.out b1.size)
  clear b1
  cases m1
  · have hf : K = 2 := HK.out.trans (by simp)
    subst hf
    go_wp2_with fail
    go_ret
    exact ⟨rfl, G1.out⟩
  have q1 : w1.cell? ⟨w.heap.size, 1, none⟩ = some (.slice ah hl ch) := H1.out 1 _ rfl
  go_wp2_with fail
  refine (C2.out _ G1.out).mono ?_
  rintro er w2 ⟨rfl, b2⟩
  have G2 := Lib.hid (below_trans G1.out b2); have H2 := Lib.hid (H1.out.kept L1.out b2)
  clear b2 q1
  cases m2
  · have hf : K = 2 := HK.out.trans (by simp)
    subst hf
    go_wp2_with fail
    go_ret
    exact ⟨rfl, G2.out⟩
  have q2 : w2.cell? ⟨w.heap.size, 2, none⟩ = some (.int .i64 half) := H2.out 2 _ rfl
  have q3 : w2.cell? ⟨w.heap.size, 3, none⟩ = some (.int .i64 age) := H2.out 3 _ rfl
  go_wp2_with fail
  refine (C3.out _).mono ?_
  rintro er w3 ⟨rfl, rfl⟩
  cases m3
  · have hf : K = 2 := HK.out.trans (by simp)
    subst hf
    go_wp2_with fail
    go_ret
    exact ⟨rfl, G2.out⟩
  go_wp2_with fail
  refine (C4.out _).mono ?_
  rintro er w3 ⟨rfl, rfl⟩
  cases m4
  · have hf : K = 2 := HK.out.trans (by simp)
    subst hf
    go_wp2_with fail
    go_ret
    exact ⟨rfl, G2.out⟩
  have hf : K = 0 := HK.out.trans (by simp)
  subst hf
  go_wp2_with fail
  go_ret
  exact ⟨rfl, G2.out⟩

theorem kChild (x : Nd) (b : Nat) (n : Int) (w : World) (hb : w.cell? ⟨b, 0, none⟩ = some (.int .i64 n)) (hl : b < w.heap.size) : Calls Try.prog 22 #[.agg x.c, .pointer (some ⟨b, 0, none⟩)] w (RetBelow (.bool (x.par == n)) w) := by
  obtain ⟨p, t, ⟨a0, a1, a2⟩, ⟨b0, b1, b2⟩, ⟨c0, c1, c2⟩⟩ := x
  simp only [Nd.c]
  have hb2 : (w.alloc (.cells #[.int .i64 p, .int .i64 t, .int .i64 a0, .int .i64 a1, .int .i64 a2, .int .i64 b0, .int .i64 b1, .int .i64 b2, .int .i64 c0, .int .i64 c1, .int .i64 c2] 35)).cell? ⟨b, 0, none⟩ = some (.int .i64 n) := (World.cell?_alloc_past (w := w) _ _ _ hl).trans hb
  go_enter Try.func22, Try.ntmps22
  go_wp2_with fail
  go_ret
  exact ⟨rfl, (Below.refl _ _).alloc (Nat.le_refl _) _⟩

/-- No node so far has the Parent n. -/
theorem kIndexFunc (ns : List Nd) (an : Option Addr) (cn nb no b : Nat) (n : Int) (w : World) (hN : Sl Nd.c 22 11 w an cn nb no ns) (hb : w.cell? ⟨b, 0, none⟩ = some (.int .i64 n)) (hl : b < w.heap.size) :
    Calls Try.prog 32 #[.slice an ns.length cn, .func (.func 22) #[] #[.pointer (some ⟨b, 0, none⟩)]] w fun e w' => ∃ v : Int, e = .returned (.int .i64 v) ∧ decide (0 ≤ v) = !(ns.all fun x => decide (x.par ≠ n)) ∧ Below w.heap.size w w' := by
  obtain ⟨F, hF⟩ : ∃ f, (ns.all fun x => decide (x.par ≠ n)) = f := ⟨_, rfl⟩
  have hno : ∀ (k : Nat) x, ns[k]? = some x → x.par = n → F = false := fun k x hx e => by
    rw [← hF, List.all_eq_false]
    exact ⟨x, List.mem_of_getElem? hx, by simp [e]⟩
  have hyes : Upto (fun x => decide (x.par ≠ n)) ns (ns.length : Int) → F = true := fun u => by rw [← hF, u.all (Int.le_refl _)]
  rw [hF]
  have hNi := hN.idx
  have n63 := hN.small
  have he : ∀ args wr, (callFunc 22 args).run Try.prog wr = .ok (.enter 22 args) wr := fun _ _ => rfl
  obtain ⟨nl, hnl⟩ : ∃ n, ns.length = n := ⟨_, rfl⟩
  rw [hnl] at hNi n63 hyes ⊢
  obtain ⟨zn, hzn⟩ : ∃ z : Int, (nl : Int) = z := ⟨_, rfl⟩
  rw [hzn] at hyes
  have HNI := Lib.hid hNi; have HN := Lib.hid hN; have HL := Lib.hid hnl; have HNO := Lib.hid hno; have HY := Lib.hid hyes; have HB := Lib.hid hb; have LB := Lib.hid hl
  clear hNi hN hnl hno hyes hF hb hl
  go_enter Try.func32, Try.ntmps32
  go_wp2_with fail
  go_loopw [8] (fun i wr => ∃ (j : Int), i = .int .i64 j ∧ 0 ≤ j ∧ j ≤ zn ∧ Hid (Upto (fun x => decide (x.par ≠ n)) ns j ∧ Below w.heap.size w wr)) (fun i _ => (zn - intOf i).toNat)
  case atStart => exact ⟨0, rfl, by omega, by omega, Upto.zero _ _, Below.refl _ _⟩
  case round =>
    obtain ⟨j, rfl, hj0, hjz, hd⟩ := hrel
    by_cases hlt : j < zn
    · obtain ⟨x, hx⟩ : ∃ x, ns[j.toNat]? = some x := ⟨_, List.getElem?_eq_getElem (by have := HL.out; omega)⟩
      have hi := HNI.out j.toNat (by omega)
      rw [show ((j.toNat : Nat) : Int) = j by omega] at hi
      have hr := (HN.out.kept hd.out.2).at_ j.toNat x hx
      have hcc := fun w => kChild x b n w
      obtain ⟨oi, hoi⟩ : ∃ n, no + j.toNat * 11 = n := ⟨_, rfl⟩
      rw [hoi] at hi hr
      have e1 := fun h => HNO.out j.toNat x hx h
      have e2 := fun h => hd.out.1.succ hj0 hx h
      obtain ⟨p, t, ⟨a0, a1, a2⟩, ⟨b0, b1, b2⟩, ⟨c0, c1, c2⟩⟩ := x
      simp only [Nd.c] at hr e1 e2 hcc
      have CC := Lib.hid (hcc wr ((hd.out.2.cell (p := ⟨b, 0, none⟩) LB.out).trans HB.out) (Nat.lt_of_lt_of_le LB.out hd.out.2.size))
      have G := Lib.hid hd.out.2; have E1 := Lib.hid e1; have E2 := Lib.hid e2
      have f0 : wr.cell? ⟨nb, oi, none⟩ = some (.int .i64 p) := hr 0 _ rfl
      have f1 : wr.cell? ⟨nb, oi + 1, none⟩ = some (.int .i64 t) := hr 1 _ rfl
      have f2 : wr.cell? ⟨nb, oi + 2, none⟩ = some (.int .i64 a0) := hr 2 _ rfl
      have f3 : wr.cell? ⟨nb, oi + 3, none⟩ = some (.int .i64 a1) := hr 3 _ rfl
      have f4 : wr.cell? ⟨nb, oi + 4, none⟩ = some (.int .i64 a2) := hr 4 _ rfl
      have f5 : wr.cell? ⟨nb, oi + 5, none⟩ = some (.int .i64 b0) := hr 5 _ rfl
      have f6 : wr.cell? ⟨nb, oi + 6, none⟩ = some (.int .i64 b1) := hr 6 _ rfl
      have f7 : wr.cell? ⟨nb, oi + 7, none⟩ = some (.int .i64 b2) := hr 7 _ rfl
      have f8 : wr.cell? ⟨nb, oi + 8, none⟩ = some (.int .i64 c0) := hr 8 _ rfl
      have f9 : wr.cell? ⟨nb, oi + 9, none⟩ = some (.int .i64 c1) := hr 9 _ rfl
      have f10 : wr.cell? ⟨nb, oi + 10, none⟩ = some (.int .i64 c2) := hr 10 _ rfl
      clear hr hx hoi hcc e1 e2 hd
      go_wp2_with fail
      refine CC.out.mono ?_
      rintro er w2 ⟨rfl, b2⟩
      have G2 := Lib.hid (below_trans G.out b2)
      clear b2 f0 f1 f2 f3 f4 f5 f6 f7 f8 f9 f10
      by_cases e : p = n
      · have hf := E1.out e
        subst hf
        have eb : (p == n) = true := by simpa using e
        rw [eb]
        clear eb e
        go_wp2_with fail
        go_ret
        exact ⟨j, rfl, by rw [decide_eq_true hj0]; rfl, G2.out⟩
      · have hf := E2.out (by simpa using e)
        have HF := Lib.hid hf
        have eb : (p == n) = false := by simpa using e
        rw [eb]
        clear eb e hf
        go_wp2_with fail
        go_roundw
        case rel => exact ⟨j + 1, rfl, by omega, by omega, HF.out, G2.out⟩
        case measure => simp [intOf]; omega
    · have hf := HY.out (by rw [show zn = j by omega]; exact hd.out.1)
      subst hf
      have G2 := Lib.hid hd.out.2
      clear hd
      go_wp2_with fail
      go_ret
      exact ⟨-1, rfl, by simp, G2.out⟩

theorem kContains (ns : List Nd) (an : Option Addr) (cn nb no b : Nat) (n : Int) (w : World) (hN : Sl Nd.c 22 11 w an cn nb no ns) (hb : w.cell? ⟨b, 0, none⟩ = some (.int .i64 n)) (hl : b < w.heap.size) :
    Calls Try.prog 23 #[.slice an ns.length cn, .func (.func 22) #[] #[.pointer (some ⟨b, 0, none⟩)]] w (RetBelow (.bool (!(ns.all fun x => decide (x.par ≠ n)))) w) := by
  have C := Lib.hid (kIndexFunc ns an cn nb no b n w hN hb hl)
  clear hN hb hl
  go_enter Try.func23, Try.ntmps23
  go_wp2_with fail
  refine C.out.mono ?_
  rintro er w1 ⟨v, rfl, hv, b1⟩
  have HV := Lib.hid hv; have B1 := Lib.hid b1
  clear hv b1 C
  go_wp2_with fail
  go_ret
  exact ⟨by rw [← HV.out]; rfl, B1.out⟩

set_option maxHeartbeats 400000 in
theorem kLeaf (c : Cmd) (vn vh : Value) (n : Int) (w : World) (hn64 : In64 n) (h300 : c.nodes.length ≤ 300) (h : CmAt c vn vh w) : Calls Try.prog 12 #[.agg (c.f vn vh), .int .i64 n] w (RetBelow (.bool (Cf.leaf c.nodes n)) w) := by
  obtain ⟨an, cn, nb, no, ah, ch, hb, ho, rfl, rfl, s1, s2⟩ := h
  have hmf : ∀ (fn : Fn) (first cap : Array Value) (w : World), (Instr.makeFunc fn first cap).run Try.prog w = .ok (.func fn first cap) w := fun _ _ _ _ => rfl
  have c2 := fun b w2 (g : Below w.heap.size w w2) => kContains c.nodes an cn nb no b n w2 (s1.kept g)
  have hlf : Cf.leaf c.nodes n = (decide (0 ≤ n ∧ n ≤ (c.nodes.length : Int) - 1) && c.nodes.all fun x => decide (x.par ≠ n)) := by
    unfold Cf.leaf
    congr 1
    rw [Bool.eq_iff_iff, decide_eq_true_iff, decide_eq_true_iff]
    omega
  rw [hlf]
  obtain ⟨A, hA⟩ : ∃ f, (c.nodes.all fun x => decide (x.par ≠ n)) = f := ⟨_, rfl⟩
  rw [hA] at c2 ⊢
  obtain ⟨kind, nodes, hosts, half, age, g, k⟩ := c
  simp only [Cmd.f] at *
  obtain ⟨nl, hnl⟩ : ∃ n, nodes.length = n := ⟨_, rfl⟩
  obtain ⟨hl, hhl⟩ : ∃ n, hosts.length = n := ⟨_, rfl⟩
  rw [hnl] at c2 h300 ⊢
  rw [hhl]
  obtain ⟨zn, hzn⟩ : ∃ z : Int, (nl : Int) = z := ⟨_, rfl⟩
  rw [hzn]
  have hsub : IntKind.i64.wrap (zn - 1) = zn - 1 := by rw [IntKind.wrap_i64]; omega
  have hw := fun w => kWithin n 0 (zn - 1) w
  have C2 := Lib.hid c2
  clear c2 hA s1 s2 hnl hhl hlf hn64
  have G0 := Lib.hid (two_below w (.cells #[.slice an nl cn, .slice ah hl ch, .int .i64 half, .int .i64 age] 25) (.cells #[.int .i64 n] 3))
  have B0 : ((w.alloc (.cells #[.slice an nl cn, .slice ah hl ch, .int .i64 half, .int .i64 age] 25)).alloc (.cells #[.int .i64 n] 3)).cell? ⟨w.heap.size + 1, 0, none⟩ = some (.int .i64 n) := World.cell?_alloc_at (w := w.alloc (.cells #[.slice an nl cn, .slice ah hl ch, .int .i64 half, .int .i64 age] 25)) _ _ _ 0 (by simp)
  have L0 : w.heap.size + 1 < ((w.alloc (.cells #[.slice an nl cn, .slice ah hl ch, .int .i64 half, .int .i64 age] 25)).alloc (.cells #[.int .i64 n] 3)).heap.size := by rw [World.size_alloc, World.size_alloc]; omega
  have CC := Lib.hid (C2.out (w.heap.size + 1) _ G0.out B0 L0)
  clear B0 L0 C2
  by_cases h1 : 0 ≤ n ∧ n ≤ zn - 1
  · rw [decide_eq_true h1] at hw ⊢
    have WI := Lib.hid hw
    clear hw h1
    go_enter Try.func12, Try.ntmps12
    go_wp2_with fail
    refine (WI.out _).mono ?_
    rintro er w2 ⟨rfl, rfl⟩
    go_wp2_with fail
    refine CC.out.mono ?_
    rintro er w2 ⟨rfl, b2⟩
    have G2 := Lib.hid (below_trans G0.out b2)
    clear b2
    go_wp2_with fail
    go_ret
    exact ⟨by cases A <;> rfl, G2.out⟩
  · rw [decide_eq_false h1] at hw ⊢
    have WI := Lib.hid hw
    clear hw h1
    go_enter Try.func12, Try.ntmps12
    go_wp2_with fail
    refine (WI.out _).mono ?_
    rintro er w2 ⟨rfl, rfl⟩
    go_wp2_with fail
    go_ret
    exact ⟨rfl, G0.out⟩

end Go.Proofs.Ytmpmnehapildeaa
