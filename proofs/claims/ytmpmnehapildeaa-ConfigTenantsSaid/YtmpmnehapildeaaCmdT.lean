/- Two configurations compared: the plain answer's Config. -/
import Derived.Test.YtmpmnehapildeaaCmdI
namespace Go.Proofs.Ytmpmnehapildeaa
open Go.RowKit
set_option linter.unusedVariables false

section
variable {P : Program} {ops : Array Oper} {C : World → Prop}
theorem quiet_index {Q : Act → Prop} {a : Act} {o : Oper} {rest : List Oper} (T : TypeId) (vx vi v : Value) (x i : Operand) (hC : ∀ w, (Instr.indexAt T vx vi).run P w = .ok v w) (ho : o.op = .indexAddr T x i) (hx : a.eval x = vx) (hi : a.eval i = vi)
    (hw : Region.wanted o (yielded ops a.tmps) = true) (h : wpQuiet P ops C Q rest (a.put o.dst v)) : wpQuiet P ops C Q (o :: rest) a := by
  unfold wpQuiet
  rw [if_pos hw]
  refine ⟨v, fun w hw' => ?_, h⟩
  unfold Oper.quietAt execOp
  simp only [ho, hx, hi, Sem.run_bind, hC w, Result.andThen_ok]
  exact ⟨rfl, rfl⟩
end

/-- A command in memory: its lists' values. -/
def CmAt (c : Cmd) (vn vh : Value) (w : World) : Prop := ∃ (an : Option Addr) (cn nb no : Nat) (ah : Option Addr) (ch hb ho : Nat), vn = .slice an c.nodes.length cn ∧ vh = .slice ah c.hosts.length ch ∧
  Sl Nd.c 22 11 w an cn nb no c.nodes ∧ Sl Hs.c 23 6 w ah ch hb ho c.hosts
theorem CmAt.kept {c : Cmd} {vn vh : Value} {w w' : World} (h : CmAt c vn vh w) (g : Below w.heap.size w w') : CmAt c vn vh w' := by
  obtain ⟨an, cn, nb, no, ah, ch, hb, ho, e1, e2, h1, h2⟩ := h
  exact ⟨an, cn, nb, no, ah, ch, hb, ho, e1, e2, h1.kept g, h2.kept g⟩
theorem CmAt.of_rows {c : Cmd} {vn vh : Value} {w : World} {A B : Nat} (h1 : w.ownsRow A 35 11 vn c.nodes.length (cellsOf Nd.c c.nodes)) (h2 : w.ownsRow B 44 6 vh c.hosts.length (cellsOf Hs.c c.hosts)) : CmAt c vn vh w := by
  obtain ⟨an, cn, nb, e1, s1⟩ := own_slice Nd.c 22 (k := 11) (fun x => rfl) h1 (fun b len cap i hi w0 => node_index b len cap i hi w0)
  obtain ⟨ah, ch, hb, e2, s2⟩ := own_slice Hs.c 23 (k := 6) (fun x => rfl) h2 (fun b len cap i hi w0 => host_index b len cap i hi w0)
  exact ⟨an, cn, nb, 0, ah, ch, hb, 0, e1, e2, s1, s2⟩
theorem CmAt.slices {c : Cmd} {vn vh : Value} {w : World} (h : CmAt c vn vh w) : ∃ an ln cn ah lh ch, vn = .slice an ln cn ∧ vh = .slice ah lh ch := by
  obtain ⟨an, cn, nb, no, ah, ch, hb, ho, rfl, rfl, h1, h2⟩ := h
  exact ⟨_, _, _, _, _, _, rfl, rfl⟩
theorem CmAt.none (c : Cmd) (w : World) (hn : c.nodes = []) (hh : c.hosts = []) : CmAt c (.slice none 0 0) (.slice none 0 0) w := by
  refine CmAt.of_rows (A := 0) (B := 0) ?_ ?_
  · rw [hn]; exact World.ownsRow_nil _ _ _ _
  · rw [hh]; exact World.ownsRow_nil _ _ _ _

/-- Two lists agree so far. -/
def Agree {α : Type} (l m : List α) (j : Int) : Prop := ∀ k : Nat, k < j.toNat → l[k]? = m[k]?
theorem Agree.zero {α : Type} (l m : List α) : Agree l m 0 := fun k hk => by simp at hk
theorem Agree.succ {α : Type} {l m : List α} {j : Int} (h : Agree l m j) (h0 : 0 ≤ j) (hx : l[j.toNat]? = m[j.toNat]?) : Agree l m (j + 1) := by
  intro k hk
  by_cases e : k = j.toNat
  · subst e; exact hx
  · exact h k (by omega)
theorem Agree.eq {α : Type} {l m : List α} {j : Int} (h : Agree l m j) (hl : (l.length : Int) ≤ j) (hm : l.length = m.length) : l = m := by
  apply List.ext_getElem? 
  intro k
  rcases Nat.lt_or_ge k l.length with q | q
  · exact h k (by omega)
  · rw [List.getElem?_eq_none q, List.getElem?_eq_none (by omega)]

def Cm.sameC (a b : Cmd) : Bool := decide (a.nodes = b.nodes) && decide (a.hosts = b.hosts) && decide (a.half = b.half) && decide (a.age = b.age)

set_option maxHeartbeats 1000000 in
set_option maxRecDepth 8000 in
theorem rConfig_any (a b : Cmd) (an ah bn bh : Option Addr) (cn ch nb no hb ho cn' ch' nb' no' hb' ho' : Nat) (w : World) (hN : Sl Nd.c 22 11 w an cn nb no a.nodes) (hH : Sl Hs.c 23 6 w ah ch hb ho a.hosts)
    (hN' : Sl Nd.c 22 11 w bn cn' nb' no' b.nodes) (hH' : Sl Hs.c 23 6 w bh ch' hb' ho' b.hosts) :
    Calls Try.prog 11 #[.agg #[.slice an a.nodes.length cn, .slice ah a.hosts.length ch, .int .i64 a.half, .int .i64 a.age], .agg #[.slice bn b.nodes.length cn', .slice bh b.hosts.length ch', .int .i64 b.half, .int .i64 b.age]] w (RetBelow (.bool (Cm.sameC a b)) w) := by
  obtain ⟨F, hF⟩ : ∃ f, Cm.sameC a b = f := ⟨_, rfl⟩
  have hyes : a.nodes = b.nodes → a.hosts = b.hosts → a.half = b.half → a.age = b.age → F = true := fun h1 h2 h3 h4 => by rw [← hF]; simp [Cm.sameC, h1, h2, h3, h4]
  have hno : ¬ (a.nodes = b.nodes ∧ a.hosts = b.hosts ∧ a.half = b.half ∧ a.age = b.age) → F = false := fun h => by
    rw [← hF, Bool.eq_false_iff]
    intro e
    simp only [Cm.sameC, Bool.and_eq_true, decide_eq_true_eq] at e
    exact h ⟨e.1.1.1, e.1.1.2, e.1.2, e.2⟩
  rw [hF]
  clear hF
  obtain ⟨kind, nodes, hosts, half, age, g, n⟩ := a
  obtain ⟨kind', nodes', hosts', half', age', g', n'⟩ := b
  simp only at hN hH hN' hH' hyes hno ⊢
  have hNi := hN.idx; have hHi := hH.idx; have hNi' := hN'.idx; have hHi' := hH'.idx
  have n63 := hN.small; have h63 := hH.small
  obtain ⟨nl, hnl⟩ : ∃ n, nodes.length = n := ⟨_, rfl⟩
  obtain ⟨hl, hhl⟩ : ∃ n, hosts.length = n := ⟨_, rfl⟩
  obtain ⟨nl', hnl'⟩ : ∃ n, nodes'.length = n := ⟨_, rfl⟩
  obtain ⟨hl', hhl'⟩ : ∃ n, hosts'.length = n := ⟨_, rfl⟩
  rw [hnl] at hNi n63 ⊢
  rw [hhl] at hHi h63 ⊢
  rw [hnl'] at hNi' ⊢
  rw [hhl'] at hHi' ⊢
  obtain ⟨zn, hzn⟩ : ∃ z : Int, (nl : Int) = z := ⟨_, rfl⟩
  obtain ⟨zh, hzh⟩ : ∃ z : Int, (hl : Int) = z := ⟨_, rfl⟩
  have gW := two_below w (.cells #[.slice an nl cn, .slice ah hl ch, .int .i64 half, .int .i64 age] 25) (.cells #[.slice bn nl' cn', .slice bh hl' ch', .int .i64 half', .int .i64 age'] 25)
  have GW := Lib.hid gW
  have HY := Lib.hid hyes; have HNO := Lib.hid hno
  have HL := Lib.hid (And.intro hnl (And.intro hhl (And.intro hnl' hhl')))
  have HNI := Lib.hid hNi; have HHI := Lib.hid hHi; have HNI' := Lib.hid hNi'; have HHI' := Lib.hid hHi'
  have HN := Lib.hid hN; have HH := Lib.hid hH; have HN' := Lib.hid hN'; have HH' := Lib.hid hH'
  clear hyes hno hNi hHi hNi' hHi' hN hH hN' hH' hnl hhl hnl' hhl'
  by_cases e1 : nl = nl'
  · subst e1
    by_cases e2 : hl = hl'
    · subst e2
      by_cases e3 : half = half'
      · subst e3
        by_cases e4 : age = age'
        · subst e4
          have hh : Holds ((w.alloc (.cells #[.slice an nl cn, .slice ah hl ch, .int .i64 half, .int .i64 age] 25)).alloc (.cells #[.slice bn nl cn', .slice bh hl ch', .int .i64 half, .int .i64 age] 25)) w.heap.size #[.slice an nl cn, .slice ah hl ch, .int .i64 half, .int .i64 age] := (Holds.new w _ _).kept (by simp) ((Below.refl _ _).alloc (Nat.le_refl _) _)
          have hh' : Holds ((w.alloc (.cells #[.slice an nl cn, .slice ah hl ch, .int .i64 half, .int .i64 age] 25)).alloc (.cells #[.slice bn nl cn', .slice bh hl ch', .int .i64 half, .int .i64 age] 25)) (w.heap.size + 1) #[.slice bn nl cn', .slice bh hl ch', .int .i64 half, .int .i64 age] := by
            have := Holds.new (w.alloc (.cells #[.slice an nl cn, .slice ah hl ch, .int .i64 half, .int .i64 age] 25)) #[.slice bn nl cn', .slice bh hl ch', .int .i64 half, .int .i64 age] 25
            rwa [World.size_alloc] at this
          have hs : w.heap.size + 1 < ((w.alloc (.cells #[.slice an nl cn, .slice ah hl ch, .int .i64 half, .int .i64 age] 25)).alloc (.cells #[.slice bn nl cn', .slice bh hl ch', .int .i64 half, .int .i64 age] 25)).heap.size := by simp
          have H1 := Lib.hid hh; have H2 := Lib.hid hh'; have HS := Lib.hid hs
          clear hh hh' hs
          go_enter Try.func11, Try.ntmps11
          go_wp2_with fail
          obtain ⟨W, hW⟩ : ∃ W, (w.alloc (.cells #[.slice an nl cn, .slice ah hl ch, .int .i64 half, .int .i64 age] 25)).alloc (.cells #[.slice bn nl cn', .slice bh hl ch', .int .i64 half, .int .i64 age] 25) = W := ⟨_, rfl⟩
          rw [hW] at GW H1 H2 HS ⊢
          clear hW gW
          have HQ := Lib.hid (fun w2 (g : Below W.heap.size W w2) => And.intro (H1.out.kept (by have := HS.out; omega) g) (H2.out.kept HS.out g))
          have FH := Lib.hid (fun w2 (g : Below W.heap.size W w2) => below_trans GW.out g)
          clear H1 H2 HS
          go_loopw [5] (fun i wr => ∃ (j : Int), i = .int .i64 j ∧ 0 ≤ j ∧ j ≤ zn ∧ Hid (Agree nodes nodes' j ∧ Below W.heap.size W wr)) (fun i _ => (zn - intOf i).toNat)
          case atStart => exact ⟨0, rfl, by omega, by omega, Agree.zero _ _, Below.refl _ _⟩
          case round =>
            obtain ⟨j, rfl, hj0, hjz, hd⟩ := hrel
            have k0 : wr.cell? ⟨w.heap.size, 0, none⟩ = some (.slice an nl cn) := (HQ.out wr hd.out.2).1 0 _ rfl
            by_cases hlt : j < zn
            · obtain ⟨x, hx⟩ : ∃ x, nodes[j.toNat]? = some x := ⟨_, List.getElem?_eq_getElem (by have := HL.out; omega)⟩
              obtain ⟨y, hy⟩ : ∃ x, nodes'[j.toNat]? = some x := ⟨_, List.getElem?_eq_getElem (by have := HL.out; omega)⟩
              have hi := HNI.out j.toNat (by omega)
              have hi' := HNI'.out j.toNat (by omega)
              rw [show ((j.toNat : Nat) : Int) = j by omega] at hi hi'
              have l1 := fun w2 (g : Below wr.heap.size wr w2) => run_loadAt_mid (P := Try.prog) w2 nb (no + j.toNat * 11) 35 x.c.toList _ (((HN.out.kept GW.out).kept (below_trans hd.out.2 g)).at_ j.toNat x hx) Try.underlying35 rfl node_len
              have l2 := fun w2 (g : Below wr.heap.size wr w2) => run_loadAt_mid (P := Try.prog) w2 nb' (no' + j.toNat * 11) 35 y.c.toList _ (((HN'.out.kept GW.out).kept (below_trans hd.out.2 g)).at_ j.toNat y hy) Try.underlying35 rfl node_len
              have q1 := fun w2 (g : Below wr.heap.size wr w2) => (HQ.out w2 (below_trans hd.out.2 g)).1
              have q2 := fun w2 (g : Below wr.heap.size wr w2) => (HQ.out w2 (below_trans hd.out.2 g)).2
              have nq := fun w => node_neq w x y
              obtain ⟨r, hr⟩ : ∃ r, (!decide (x = y)) = r := ⟨_, rfl⟩
              rw [hr] at nq
              have L1 := Lib.hid l1; have L2 := Lib.hid l2; have Q1 := Lib.hid q1; have Q2 := Lib.hid q2
              have HX := Lib.hid hx; have HYY := Lib.hid hy; have HI := Lib.hid hi; have HI' := Lib.hid hi'; have RR := Lib.hid hr; have NQ_ := Lib.hid nq
              clear l1 l2 q1 q2 hx hy hi hi' hr nq
              go_wp2_with fail
              refine region_quiet (fun w2 => Below wr.heap.size wr w2) (by kernel_rfl) (by kernel_rfl) (below_drewN (Below.refl _ _) 1) ?_
              repeat (first
                | (go_big_quiet_skip)
                | (with_reducible refine quiet_hold Q1.out 22 _ Try.underlying22 rfl _ _ _ rfl rfl rfl ?_ ?_; (focus kernel_rfl); simp only [Act.put, List.setIfInBounds_toArray, List.set_cons_zero, List.set_cons_succ])
                | (with_reducible refine quiet_hold Q2.out 22 _ Try.underlying22 rfl _ _ _ rfl rfl rfl ?_ ?_; (focus kernel_rfl); simp only [Act.put, List.setIfInBounds_toArray, List.set_cons_zero, List.set_cons_succ])
                | (with_reducible refine quiet_index 22 _ _ _ _ _ HI.out rfl rfl rfl ?_ ?_; (focus kernel_rfl); simp only [Act.put, List.setIfInBounds_toArray, List.set_cons_zero, List.set_cons_succ])
                | (with_reducible refine quiet_index 22 _ _ _ _ _ HI'.out rfl rfl rfl ?_ ?_; (focus kernel_rfl); simp only [Act.put, List.setIfInBounds_toArray, List.set_cons_zero, List.set_cons_succ])
                | (with_reducible refine quiet_load _ _ 35 _ L1.out rfl rfl ?_ ?_; (focus kernel_rfl); simp only [Act.put, List.setIfInBounds_toArray, List.set_cons_zero, List.set_cons_succ])
                | (with_reducible refine quiet_load _ _ 35 _ L2.out rfl rfl ?_ ?_; (focus kernel_rfl); simp only [Act.put, List.setIfInBounds_toArray, List.set_cons_zero, List.set_cons_succ])
                | (refine quiet_bin .neq 35 _ _ _ _ _ _ rfl rfl rfl NQ_.out (fun w => node_guard w _ _ _ _ _) ?_ ?_; (focus kernel_rfl); simp only [Act.put, List.setIfInBounds_toArray, List.set_cons_zero, List.set_cons_succ])
                | (go_big_quiet_step ((intro g2; (with_reducible rfl)))))
              refine wpQuiet_nil ?_
              intro w2 g2
              have G2 := Lib.hid (below_trans hd.out.2 g2); clear g2 k0
              cases r
              · have hxy : x = y := by simpa using RR.out
                subst hxy
                go_wp2_with fail
                go_roundw
                case rel => exact ⟨j + 1, rfl, by omega, by omega, hd.out.1.succ hj0 (HX.out.trans HYY.out.symm), G2.out⟩
                case measure => simp [intOf]; omega
              · have hxy : ¬ x = y := by simpa using RR.out
                have hf : F = false := HNO.out (fun e => hxy (by
                  have h := congrArg (fun l => l[j.toNat]?) e.1
                  simp only [HX.out, HYY.out] at h
                  injection h))
                subst hf
                clear hxy
                go_wp2_with fail
                go_ret
                exact ⟨rfl, FH.out _ G2.out⟩
            · have hall := hd.out.1.eq (by have := HL.out; omega) (by have := HL.out; omega)
              have HALL1 := Lib.hid hall; clear hall
              have D2 := Lib.hid hd.out.2
              clear hd
              have k1 : wr.cell? ⟨w.heap.size, 1, none⟩ = some (.slice ah hl ch) := (HQ.out wr D2.out).1 1 _ rfl
              go_wp2_with fail
              go_loopw [6] (fun i wr => ∃ (j : Int), i = .int .i64 j ∧ 0 ≤ j ∧ j ≤ zh ∧ Hid (Agree hosts hosts' j ∧ Below W.heap.size W wr)) (fun i _ => (zh - intOf i).toNat)
              case atStart => exact ⟨0, rfl, by omega, by omega, Agree.zero _ _, D2.out⟩
              case round =>
                obtain ⟨j, rfl, hj0, hjz, hd⟩ := hrel
                have k0 : wr.cell? ⟨w.heap.size, 1, none⟩ = some (.slice ah hl ch) := (HQ.out wr hd.out.2).1 1 _ rfl
                by_cases hlt : j < zh
                · obtain ⟨x, hx⟩ : ∃ x, hosts[j.toNat]? = some x := ⟨_, List.getElem?_eq_getElem (by have := HL.out; omega)⟩
                  obtain ⟨y, hy⟩ : ∃ x, hosts'[j.toNat]? = some x := ⟨_, List.getElem?_eq_getElem (by have := HL.out; omega)⟩
                  have hi := HHI.out j.toNat (by omega)
                  have hi' := HHI'.out j.toNat (by omega)
                  rw [show ((j.toNat : Nat) : Int) = j by omega] at hi hi'
                  have l1 := fun w2 (g : Below wr.heap.size wr w2) => run_loadAt_mid (P := Try.prog) w2 hb (ho + j.toNat * 6) 44 x.c.toList _ (((HH.out.kept GW.out).kept (below_trans hd.out.2 g)).at_ j.toNat x hx) Try.underlying44 rfl host_len
                  have l2 := fun w2 (g : Below wr.heap.size wr w2) => run_loadAt_mid (P := Try.prog) w2 hb' (ho' + j.toNat * 6) 44 y.c.toList _ (((HH'.out.kept GW.out).kept (below_trans hd.out.2 g)).at_ j.toNat y hy) Try.underlying44 rfl host_len
                  have q1 := fun w2 (g : Below wr.heap.size wr w2) => (HQ.out w2 (below_trans hd.out.2 g)).1
                  have q2 := fun w2 (g : Below wr.heap.size wr w2) => (HQ.out w2 (below_trans hd.out.2 g)).2
                  have nq := fun w => host_neq w x y
                  obtain ⟨r, hr⟩ : ∃ r, (!decide (x = y)) = r := ⟨_, rfl⟩
                  rw [hr] at nq
                  have L1 := Lib.hid l1; have L2 := Lib.hid l2; have Q1 := Lib.hid q1; have Q2 := Lib.hid q2
                  have HX := Lib.hid hx; have HYY := Lib.hid hy; have HI := Lib.hid hi; have HI' := Lib.hid hi'; have RR := Lib.hid hr; have NQ_ := Lib.hid nq
                  clear l1 l2 q1 q2 hx hy hi hi' hr nq
                  go_wp2_with fail
                  refine region_quiet (fun w2 => Below wr.heap.size wr w2) (by kernel_rfl) (by kernel_rfl) (below_drewN (Below.refl _ _) 1) ?_
                  repeat (first
                    | (go_big_quiet_skip)
                    | (with_reducible refine quiet_hold Q1.out 23 _ Try.underlying23 rfl _ _ _ rfl rfl rfl ?_ ?_; (focus kernel_rfl); simp only [Act.put, List.setIfInBounds_toArray, List.set_cons_zero, List.set_cons_succ])
                    | (with_reducible refine quiet_hold Q2.out 23 _ Try.underlying23 rfl _ _ _ rfl rfl rfl ?_ ?_; (focus kernel_rfl); simp only [Act.put, List.setIfInBounds_toArray, List.set_cons_zero, List.set_cons_succ])
                    | (with_reducible refine quiet_index 23 _ _ _ _ _ HI.out rfl rfl rfl ?_ ?_; (focus kernel_rfl); simp only [Act.put, List.setIfInBounds_toArray, List.set_cons_zero, List.set_cons_succ])
                    | (with_reducible refine quiet_index 23 _ _ _ _ _ HI'.out rfl rfl rfl ?_ ?_; (focus kernel_rfl); simp only [Act.put, List.setIfInBounds_toArray, List.set_cons_zero, List.set_cons_succ])
                    | (with_reducible refine quiet_load _ _ 44 _ L1.out rfl rfl ?_ ?_; (focus kernel_rfl); simp only [Act.put, List.setIfInBounds_toArray, List.set_cons_zero, List.set_cons_succ])
                    | (with_reducible refine quiet_load _ _ 44 _ L2.out rfl rfl ?_ ?_; (focus kernel_rfl); simp only [Act.put, List.setIfInBounds_toArray, List.set_cons_zero, List.set_cons_succ])
                    | (refine quiet_bin .neq 44 _ _ _ _ _ _ rfl rfl rfl NQ_.out (fun w => host_guard w _ _ _ _ _) ?_ ?_; (focus kernel_rfl); simp only [Act.put, List.setIfInBounds_toArray, List.set_cons_zero, List.set_cons_succ])
                    | (go_big_quiet_step ((intro g2; (with_reducible rfl)))))
                  refine wpQuiet_nil ?_
                  intro w2 g2
                  have G2 := Lib.hid (below_trans hd.out.2 g2); clear g2 k0
                  cases r
                  · have hxy : x = y := by simpa using RR.out
                    subst hxy
                    go_wp2_with fail
                    go_roundw
                    case rel => exact ⟨j + 1, rfl, by omega, by omega, hd.out.1.succ hj0 (HX.out.trans HYY.out.symm), G2.out⟩
                    case measure => simp [intOf]; omega
                  · have hxy : ¬ x = y := by simpa using RR.out
                    have hf : F = false := HNO.out (fun e => hxy (by
                      have h := congrArg (fun l => l[j.toNat]?) e.2.1
                      simp only [HX.out, HYY.out] at h
                      injection h))
                    subst hf
                    clear hxy
                    go_wp2_with fail
                    go_ret
                    exact ⟨rfl, FH.out _ G2.out⟩
                · have hall := hd.out.1.eq (by have := HL.out; omega) (by have := HL.out; omega)
                  have HALL2 := Lib.hid hall; clear hall
                  have D2 := Lib.hid hd.out.2
                  clear hd
                  have hf := HY.out HALL1.out HALL2.out (by trivial) (by trivial)
                  subst hf
                  go_wp2_with fail
                  go_ret
                  exact ⟨rfl, FH.out _ D2.out⟩
        · have hf : F = false := HNO.out (fun e => e4 e.2.2.2)
          subst hf
          go_enter Try.func11, Try.ntmps11
          go_wp2_with fail
          go_ret
          exact ⟨rfl, GW.out⟩
      · have hf : F = false := HNO.out (fun e => e3 e.2.2.1)
        subst hf
        go_enter Try.func11, Try.ntmps11
        go_wp2_with fail
        go_ret
        exact ⟨rfl, GW.out⟩
    · have e2' : ¬ (hl : Int) = (hl' : Int) := by omega
      obtain ⟨zh', hzh'⟩ : ∃ z : Int, (hl' : Int) = z := ⟨_, rfl⟩
      rw [hzh, hzh'] at e2'
      have hf : F = false := HNO.out (fun e => e2 (by have h := congrArg List.length e.2.1; have := HL.out; omega))
      subst hf
      go_enter Try.func11, Try.ntmps11
      go_wp2_with fail
      go_ret
      exact ⟨rfl, GW.out⟩
  · have e1' : ¬ (nl : Int) = (nl' : Int) := by omega
    obtain ⟨zn', hzn'⟩ : ∃ z : Int, (nl' : Int) = z := ⟨_, rfl⟩
    rw [hzn, hzn'] at e1'
    have hf : F = false := HNO.out (fun e => e1 (by have h := congrArg List.length e.1; have := HL.out; omega))
    subst hf
    go_enter Try.func11, Try.ntmps11
    go_wp2_with fail
    go_ret
    exact ⟨rfl, GW.out⟩

end Go.Proofs.Ytmpmnehapildeaa
