/- KqG KqH KqV KqI: joined. -/
import Derived.Test.YtkakgjmajplgmaaZb
import Derived.Test.YtkakgjmajplgmaaQtA
namespace Go.Proofs.Ytkakgjmajplgmaa
open Go Go.RowKit Go.Shelf
set_option linter.unusedVariables false
attribute [local go_sem] Oper.semAt_some

theorem qLeavesBelow (an : Option Addr) (nl cn : Nat) (ah : Option Addr) (hl ch : Nat) (ha ag n : Int) (w : World) :
    Calls Try.prog 55 #[.agg #[.slice an nl cn, .slice ah hl ch, .int .i64 ha, .int .i64 ag], .int .i64 n] w fun e w' => e = .returned (.func (.func 63) #[] #[.pointer (some ⟨w.heap.size, 0, none⟩), .pointer (some ⟨w.heap.size + 1, 0, none⟩)]) ∧
      w' = (w.alloc (.cells #[.slice an nl cn, .slice ah hl ch, .int .i64 ha, .int .i64 ag] 25)).alloc (.cells #[.int .i64 n] 3) := by
  have hmf : ∀ (fn : Fn) (first cap : Array Value) (w : World), (Instr.makeFunc fn first cap).run Try.prog w = .ok (.func fn first cap) w := fun _ _ _ _ => rfl
  go_enter Try.func55, Try.ntmps55
  go_wp2_with fail
  go_ret
  exact ⟨rfl, rfl⟩

/-- A row of one's own as a slice that lies at or beyond its base. -/
theorem own_slice_up {w : World} {base : Nat} {v : Value} {l : List Int} (h : w.ownsRow base 3 1 v l.length (cellsOf iC l)) : ∃ ao cap bb, v = .slice ao l.length cap ∧ Sl iC 36 1 w ao cap bb 0 l ∧ (0 < l.length → base ≤ bb) := by
  obtain ⟨ao, cap, bb, e1, s1⟩ := own_slice iC 36 (k := 1) (fun x => rfl) h (fun b len cap i hi w0 => int_index b len cap i hi w0)
  refine ⟨ao, cap, bb, e1, s1, fun h0 => ?_⟩
  subst e1
  rcases h.2 with ⟨q, hn⟩ | ⟨g, cap', cur, q, hb, hg, _⟩
  · omega
  · simp only [Value.slice.injEq] at q
    obtain ⟨rfl, _, rfl⟩ := q
    have h1 := s1.idx 0 h0 w
    rw [int_index g l.length cap 0 h0 w] at h1
    simp only [Result.ok.injEq, Value.pointer.injEq, Option.some.injEq, Addr.mk.injEq] at h1
    omega

namespace Qt
/-- Those of the first j tenants that are below n. -/
def belTo (ns : List Nd) (n : Int) (j : Nat) : List Int := ((Cf.leaves ns).take j).filter fun t => on ns n t
theorem belTo_yes {ns : List Nd} {n : Int} {j : Nat} {x : Int} (hx : (Cf.leaves ns)[j]? = some x) (h : on ns n x = true) : belTo ns n (j + 1) = belTo ns n j ++ [x] := by
  unfold belTo
  rw [List.take_add_one, hx, List.filter_append]
  simp [h]
theorem belTo_no {ns : List Nd} {n : Int} {j : Nat} {x : Int} (hx : (Cf.leaves ns)[j]? = some x) (h : on ns n x = false) : belTo ns n (j + 1) = belTo ns n j := by
  unfold belTo
  rw [List.take_add_one, hx, List.filter_append]
  simp [h]
theorem belTo_all (ns : List Nd) (n : Int) : belTo ns n (Cf.leaves ns).length = below ns n := by unfold belTo below; rw [List.take_length]
theorem belTo_pre (ns : List Nd) (n : Int) (j : Nat) : belTo ns n j <+: below ns n := (List.take_prefix j _).filter _
end Qt

set_option maxRecDepth 100000 in
set_option maxHeartbeats 2000000 in
/-- All tenants below a node, for every body that keeps what is gone over. -/
theorem qLeaf1 (F : Fence) (hF : Wd F) (n : Nat) (hn : 1 ≤ n) (l B Bc Bn : Nat) (c : Cmd) (an : Option Addr) (cn nb no : Nat) (ah : Option Addr) (ch hb ho : Nat) (m0 : Int) (J Jx : List Int → World → Prop) (W : World)
    (hJ : AbidesFrom W.heap.size J) (hB : B < W.heap.size) (hpt : ∀ v, W.cell? ⟨B, 0, none⟩ = some v → v.ownBlock = none) (h300 : c.nodes.length ≤ 300) (hN : Sl Nd.c 22 11 W an cn nb no c.nodes) (hH : Sl Hs.c 23 6 W ah ch hb ho c.hosts)
    (hc : Row W Bc #[.slice an c.nodes.length cn, .slice ah c.hosts.length ch, .int .i64 c.half, .int .i64 c.age] 25) (hbn : Row W Bn #[.int .i64 m0] 3)
    (hY : ∀ pre x w1, x ∈ Qt.below c.nodes m0 → J pre w1 → pre.length < (Qt.below c.nodes m0).length → YieldAt F (n - 1) Try.prog l #[.int .i64 x] w1 fun e w' =>
      (e = .returned (.bool true) ∧ J (pre ++ [x]) w' ∧ Kb B w1 w') ∨ (e = .returned (.bool false) ∧ Jx (pre ++ [x]) w'))
    (h0 : J [] W) :
    CallsIn F n Try.prog 63 #[.func (.yield l) #[] #[], .pointer (some ⟨Bc, 0, none⟩), .pointer (some ⟨Bn, 0, none⟩)] W fun e w' => (∃ v, e = .returned v) ∧
      ((∃ ys, ys = Qt.below c.nodes m0 ∧ J ys w') ∨ (∃ pre, pre <+: Qt.below c.nodes m0 ∧ Jx pre w')) := by
  have hro := hF.ro
  have hfa := hF.all
  have k0 : W.cell? ⟨Bc, 0, none⟩ = some (.slice an c.nodes.length cn) := hc.at_ 0
  have k1 : W.cell? ⟨Bc, 1, none⟩ = some (.slice ah c.hosts.length ch) := hc.at_ 1
  have k2 : W.cell? ⟨Bc, 2, none⟩ = some (.int .i64 c.half) := hc.at_ 2
  have k3 : W.cell? ⟨Bc, 3, none⟩ = some (.int .i64 c.age) := hc.at_ 3
  have hm0 : W.cell? ⟨Bn, 0, none⟩ = some (.int .i64 m0) := hbn.at_ 0
  refine callsIn_of_wp Try.func63 rfl (hfa _) ?_ hro
  simp only [Try.ntmps63, List.size_toArray, List.length_cons, List.length_nil, Nat.reduceAdd, Nat.reduceSub, Array.replicate_succ, Array.replicate_zero, List.push_toArray, List.append_toArray, List.nil_append, List.cons_append]
  gi_wp2_with fail
  refine (hF.lift (qPathsWith c.nodes an cn nb no ah c.hosts.length ch c.half c.age m0 W hN h300)).mono ?_
  rintro er w1 ⟨rfl, r1, b1⟩
  have hc1 := hc.under b1
  have j0 : w1.cell? ⟨Bc, 0, none⟩ = some (.slice an c.nodes.length cn) := hc1.at_ 0
  have j1 : w1.cell? ⟨Bc, 1, none⟩ = some (.slice ah c.hosts.length ch) := hc1.at_ 1
  have j2 : w1.cell? ⟨Bc, 2, none⟩ = some (.int .i64 c.half) := hc1.at_ 2
  have j3 : w1.cell? ⟨Bc, 3, none⟩ = some (.int .i64 c.age) := hc1.at_ 3
  clear k0 k1 k2 k3
  gi_wp2_with fail
  refine (hF.lift (kLeavesOwn c (.slice an c.nodes.length cn) (.slice ah c.hosts.length ch) w1 h300 ⟨an, cn, nb, no, ah, ch, hb, ho, rfl, rfl, hN.kept b1, hH.kept b1⟩)).mono ?_
  rintro er w2 ⟨lv, rfl, own2, b2⟩
  obtain ⟨ao, cap, bb, rfl, s2, hup⟩ := own_slice_up own2
  have r2 := r1.under b2
  have b12 := b1.trans (b2.mono b1.size)
  have hpt2 : ∀ v, w2.cell? ⟨B, 0, none⟩ = some v → v.ownBlock = none := fun v hv => hpt v ((b12.cell (p := ⟨B, 0, none⟩) hB).symm.trans hv)
  have hJ2 : J [] w2 := hJ [] W w2 none h0 (grown_of_below b12) (fun r e => by cases e)
  have hB2 : B < w2.heap.size := Nat.lt_of_lt_of_le hB b12.size
  have hoff : ∀ k, k ≠ B → Off B k w2 := fun k hk => ⟨hk, fun v hv => by rw [hpt2 v hv]; simp⟩
  have hlen : ∀ t ∈ Cf.leaves c.nodes, 0 ≤ t ∧ t < c.nodes.length := fun t ht => Qt.leaf_in (Qt.mem_leaves.1 ht)
  have hl300 : (Cf.leaves c.nodes).length ≤ 300 := Nat.le_trans (Cf.leavesTo_len c.nodes c.nodes.length) h300
  have hbi := fun (i : Nat) (h : i < c.nodes.length) w0 => bool_index (W.heap.size + 1) c.nodes.length c.nodes.length i h w0
  clear j0 j1 j2 j3 hm0 own2
  gi_wp2_with fail
  gi_loopw [13] (fun i wr => ∃ j : Nat, j ≤ (Cf.leaves c.nodes).length ∧ i = .int .i64 (j : Int) ∧ J (Qt.belTo c.nodes m0 j) wr ∧ Kb B w2 wr) (fun i _ => (Cf.leaves c.nodes).length - (intOf i).toNat)
  case atStart => exact ⟨0, Nat.zero_le _, rfl, hJ2, Kb.refl _ _⟩
  case round =>
    obtain ⟨j, hj, rfl, hJs, hk⟩ := hrel
    by_cases hlt : j < (Cf.leaves c.nodes).length
    · obtain ⟨x, hx⟩ : ∃ x, (Cf.leaves c.nodes)[j]? = some x := ⟨_, List.getElem?_eq_getElem hlt⟩
      obtain ⟨x0, x1⟩ := hlen x (List.mem_of_getElem? hx)
      have s3 := s2.kb hk (fun h => hoff bb (by have := hup h; have := b1.size; omega))
      have r3 := hk.row r2 (by omega) (hoff _ (by omega)).2
      have hi := s3.idx j hlt
      have hcx : wr.cell? ⟨bb, 0 + j * 1, none⟩ = some (.int .i64 x) := s3.at_ j x hx 0 _ rfl
      have hib := hbi x.toNat (by omega)
      rw [show ((x.toNat : Nat) : Int) = x by omega] at hib
      have hyes := @Qt.belTo_yes c.nodes m0 j x hx
      have hno := @Qt.belTo_no c.nodes m0 j x hx
      have hpre := (Qt.belTo_pre c.nodes m0 (j + 1))
      have hcb : wr.cell? ⟨W.heap.size + 1, x.toNat, none⟩ = some (.bool (Qt.on c.nodes m0 x)) := by
        rw [r3.at_, bcells_at, Qt.hasTo_at c.nodes m0 _ x.toNat (by omega), decide_eq_true (by omega : x.toNat < c.nodes.length), show ((x.toNat : Nat) : Int) = x by omega]
        rfl
      obtain ⟨oi, hoi⟩ : ∃ k, 0 + j * 1 = k := ⟨_, rfl⟩
      rw [hoi] at hi hcx
      obtain ⟨V, hV⟩ : ∃ b, Qt.on c.nodes m0 x = b := ⟨_, rfl⟩
      rw [hV] at hcb hyes hno
      cases V
      · have e := Lib.hid (hno rfl)
        clear hyes hno hpre hoi hV hx s3 r3
        gi_wp2_with fail
        go_roundw
        case rel => exact ⟨j + 1, by omega, by simp, by rw [e.out]; exact hJs, hk⟩
        case measure => simp [intOf]; omega
      · have e := hyes rfl
        rw [e] at hpre
        have hpl := hpre.length_le
        rw [List.length_append, List.length_singleton] at hpl
        obtain ⟨fn, tmps, assign, body, hy, hR⟩ := hY _ x wr (Qt.mem_below.2 ⟨Qt.mem_leaves.1 (List.mem_of_getElem? hx), hV⟩) hJs (by omega)
        have E := Lib.hid e; have HP := Lib.hid hpre
        clear hyes hno hpre hoi hV hx s3 r3 e hpl
        gi_wp2_with fail
        refine hR.mono ?_
        rintro e w3 (⟨rfl, hJ3, hk3⟩ | ⟨rfl, hJx3⟩)
        · gi_wp2_with fail
          go_roundw
          case rel => exact ⟨j + 1, by omega, by simp, by rw [E.out]; exact hJ3, hk.trans hk3⟩
          case measure => simp [intOf]; omega
        · gi_wp2
          refine bodyPost_ret (results_none rfl _ _ _) rfl ?_
          exact ⟨⟨_, rfl⟩, .inr ⟨_, HP.out, hJx3⟩⟩
    · obtain rfl : j = (Cf.leaves c.nodes).length := by omega
      rw [Qt.belTo_all] at hJs
      gi_wp2
      go_end0
      exact ⟨⟨_, rfl⟩, .inl ⟨_, rfl, hJs⟩⟩

theorem qLeaf_stops (F : Fence) (hF : Wd F) (n : Nat) (hn : 1 ≤ n) (B Bc Bn : Nat) (c : Cmd) (an : Option Addr) (cn nb no : Nat) (ah : Option Addr) (ch hb ho : Nat) (m0 : Int) (w : World)
    (hB : B < w.heap.size) (hpt : ∀ v, w.cell? ⟨B, 0, none⟩ = some v → v.ownBlock = none) (h300 : c.nodes.length ≤ 300) (hN : Sl Nd.c 22 11 w an cn nb no c.nodes) (hH : Sl Hs.c 23 6 w ah ch hb ho c.hosts)
    (hc : Row w Bc #[.slice an c.nodes.length cn, .slice ah c.hosts.length ch, .int .i64 c.half, .int .i64 c.age] 25) (hbn : Row w Bn #[.int .i64 m0] 3) :
    SeqStopsK F n Try.prog 63 #[.pointer (some ⟨Bc, 0, none⟩), .pointer (some ⟨Bn, 0, none⟩)] (fun x : Int => #[Value.int .i64 x]) (Kb B) (fun ys => ys = Qt.below c.nodes m0) (fun pre => pre <+: Qt.below c.nodes m0) (Qt.below c.nodes m0).length w := fun l J Jx W hW hJ _ hY h0 =>
  qLeaf1 F hF n hn l B Bc Bn c an cn nb no ah ch hb ho m0 J Jx W hJ (Nat.lt_of_lt_of_le hB hW.size) (fun v hv => hpt v ((hW.cell (p := ⟨B, 0, none⟩) hB).symm.trans hv)) h300 (hN.kept hW) (hH.kept hW) (hc.under hW) (hbn.under hW) (fun pre x w1 _ => hY pre x w1) h0

/-- The same where a round is told that it is handed one of them. -/
theorem qLeaf_stopsS (F : Fence) (hF : Wd F) (n : Nat) (hn : 1 ≤ n) (B Bc Bn : Nat) (c : Cmd) (an : Option Addr) (cn nb no : Nat) (ah : Option Addr) (ch hb ho : Nat) (m0 : Int) (w : World)
    (hB : B < w.heap.size) (hpt : ∀ v, w.cell? ⟨B, 0, none⟩ = some v → v.ownBlock = none) (h300 : c.nodes.length ≤ 300) (hN : Sl Nd.c 22 11 w an cn nb no c.nodes) (hH : Sl Hs.c 23 6 w ah ch hb ho c.hosts)
    (hc : Row w Bc #[.slice an c.nodes.length cn, .slice ah c.hosts.length ch, .int .i64 c.half, .int .i64 c.age] 25) (hbn : Row w Bn #[.int .i64 m0] 3) :
    SeqStopsK F n Try.prog 63 #[.pointer (some ⟨Bc, 0, none⟩), .pointer (some ⟨Bn, 0, none⟩)] (fun x : {x : Int // x ∈ Qt.below c.nodes m0} => #[Value.int .i64 x.1]) (Kb B) (fun ys => ys.map (·.1) = Qt.below c.nodes m0) (fun pre => pre.map (·.1) <+: Qt.below c.nodes m0) (Qt.below c.nodes m0).length w := fun l J Jx W hW hJ _ hY h0 => by
  refine (qLeaf1 F hF n hn l B Bc Bn c an cn nb no ah ch hb ho m0 (fun pre W => ∃ q : List {x : Int // x ∈ Qt.below c.nodes m0}, q.map (·.1) = pre ∧ J q W) (fun pre W => ∃ q : List {x : Int // x ∈ Qt.below c.nodes m0}, q.map (·.1) = pre ∧ Jx q W) W ?_ (Nat.lt_of_lt_of_le hB hW.size) (fun v hv => hpt v ((hW.cell (p := ⟨B, 0, none⟩) hB).symm.trans hv)) h300 (hN.kept hW) (hH.kept hW) (hc.under hW) (hbn.under hW) ?_ ⟨[], rfl, h0⟩).mono ?_
  · rintro s A C row ⟨q, e, hq⟩ hg hr
    exact ⟨q, e, hJ q A C row hq hg hr⟩
  · rintro pre x w1 hx ⟨q, rfl, hq⟩ hl
    rw [List.length_map] at hl
    obtain ⟨fn, tmps, assign, body, hy, hR⟩ := hY q ⟨x, hx⟩ w1 hq hl
    refine ⟨fn, tmps, assign, body, hy, hR.mono ?_⟩
    rintro e w' (⟨h1, h2, h3⟩ | ⟨h1, h2⟩)
    · exact .inl ⟨h1, ⟨_, by simp, h2⟩, h3⟩
    · exact .inr ⟨h1, ⟨_, by simp, h2⟩⟩
  · rintro e w' ⟨he, ⟨ys, rfl, q, e1, hq⟩ | ⟨pre, hp, q, rfl, hq⟩⟩
    · exact ⟨he, .inl ⟨q, e1, hq⟩⟩
    · exact ⟨he, .inr ⟨q, hp, hq⟩⟩

end Go.Proofs.Ytkakgjmajplgmaa
namespace Go.Proofs.Ytkakgjmajplgmaa
open Go Go.RowKit Go.Shelf
set_option linter.unusedVariables false
attribute [local go_sem] Oper.semAt_some

end Go.Proofs.Ytkakgjmajplgmaa
namespace Go.Proofs.Ytkakgjmajplgmaa
open Go.RowKit
set_option linter.unusedVariables false

namespace Kq
theorem cut_minmax (b n : Int) (h : 0 ≤ b) : min (max n (-b)) b = Qt.cutb b n := by unfold Qt.cutb; (repeat' split) <;> omega

set_option maxHeartbeats 400000 in
theorem within_any (n b : Int) (b0 : 0 ≤ b) (b1 : b ≤ 9223372036854775807) (w : World) :
    Calls Try.prog 62 #[.int .i64 n, .int .i64 b] w fun e w' => e = .returned (.int .i64 (Qt.cutb b n)) ∧ w = w' := by
  have h := cut_minmax b n b0
  have H := Lib.hid h; clear h
  go_enter Try.func62, Try.ntmps62
  go_wp2_with fail
  go_ret
  exact ⟨ret_i64 H.out, rfl⟩

set_option maxHeartbeats 400000 in
theorem cut_any (n : Int) (w : World) :
    Calls Try.prog 54 #[.int .i64 n] w fun e w' => e = .returned (.int .i64 (Qt.far n)) ∧ w = w' := by
  go_enter Try.func54, Try.ntmps54
  go_wp2_with fail
  refine (within_any _ _ (by decide) (by decide) _).mono ?_
  rintro e w' ⟨rfl, rfl⟩
  go_wp2_with fail
  go_ret
  exact ⟨rfl, rfl⟩

set_option maxHeartbeats 400000 in
theorem addOne_any (r : Nat) (hr : r < 3) (A B S : Nat) (x y z : Int) (w : World) (hA : w.cell? ⟨A, r, none⟩ = some (.int .i64 x)) (hB : w.cell? ⟨B, r, none⟩ = some (.int .i64 y))
    (hS : w.cell? ⟨S, r, none⟩ = some (.int .i64 z)) (hf : w.frozen? ⟨S, r, none⟩ = false) :
    Calls Try.prog 53 #[.int .i64 (r : Int), .pointer (some ⟨A, 0, none⟩), .pointer (some ⟨B, 0, none⟩), .pointer (some ⟨S, 0, none⟩)] w fun e w' => e = .returned (.tuple #[]) ∧ w' = w.drew.setCell ⟨S, r, none⟩ (.int .i64 (Qt.add1 x y)) := by
  have hx := Qt.far_range x
  have hy := Qt.far_range y
  have r3 : (r : Int) < 3 := by omega
  have hw : IntKind.i64.wrap (Qt.far x + Qt.far y) = Qt.far x + Qt.far y := IntWalk.i64_in _ (by omega)
  go_enter Try.func53, Try.ntmps53
  go_wp2_with fail
  refine wp_region_still_tail 12 (by kernel_rfl) (by kernel_rfl) ?_
  simp only [List.take_succ_cons, List.take_zero, List.drop_succ_cons, List.drop_zero]
  repeat (first | (with_reducible refine wpStill_step (fun K hK => ?_); go_simp; (first | ((with_reducible refine hK _ ?_); clear hK K) | ((with_reducible refine ⟨_, still_of (cut_any _ _), hK _ ?_⟩); clear hK K))))
  refine wpStill_nil ?_
  change wpList _ _ _ _ _ w.drew
  go_wp2
  go_end0
  exact ⟨rfl, rfl⟩

set_option maxHeartbeats 400000 in
theorem subOne_any (r : Nat) (hr : r < 3) (A B S : Nat) (x y z : Int) (w : World) (hA : w.cell? ⟨A, r, none⟩ = some (.int .i64 x)) (hB : w.cell? ⟨B, r, none⟩ = some (.int .i64 y))
    (hS : w.cell? ⟨S, r, none⟩ = some (.int .i64 z)) (hf : w.frozen? ⟨S, r, none⟩ = false) :
    Calls Try.prog 56 #[.int .i64 (r : Int), .pointer (some ⟨A, 0, none⟩), .pointer (some ⟨B, 0, none⟩), .pointer (some ⟨S, 0, none⟩)] w fun e w' => e = .returned (.tuple #[]) ∧ w' = w.drew.setCell ⟨S, r, none⟩ (.int .i64 (Qt.sub1 x y)) := by
  have hx := Qt.far_range x
  have hy := Qt.far_range y
  have r3 : (r : Int) < 3 := by omega
  have hw : IntKind.i64.wrap (Qt.far x - Qt.far y) = Qt.far x - Qt.far y := IntWalk.i64_in _ (by omega)
  go_enter Try.func56, Try.ntmps56
  go_wp2_with fail
  refine wp_region_still_tail 12 (by kernel_rfl) (by kernel_rfl) ?_
  simp only [List.take_succ_cons, List.take_zero, List.drop_succ_cons, List.drop_zero]
  repeat (first | (with_reducible refine wpStill_step (fun K hK => ?_); go_simp; (first | ((with_reducible refine hK _ ?_); clear hK K) | ((with_reducible refine ⟨_, still_of (cut_any _ _), hK _ ?_⟩); clear hK K))))
  refine wpStill_nil ?_
  change wpList _ _ _ _ _ w.drew
  go_wp2
  go_end0
  exact ⟨rfl, rfl⟩

/-- The first r numbers of s, then 0. -/
def upto (r : Nat) (s : V3) (i : Nat) : Int := if i < r then s.at_ i else 0
def Filled (V : World) (s : V3) (r : Nat) (w : World) : Prop := ∃ n, w = (V.alloc (.cells #[.int .i64 (upto r s 0), .int .i64 (upto r s 1), .int .i64 (upto r s 2)] 29)).drewN n
theorem filled_step (V : World) (s : V3) (r : Nat) (hr : r < 3) (n : Nat) :
    Filled V s (r + 1) (((V.alloc (.cells #[.int .i64 (upto r s 0), .int .i64 (upto r s 1), .int .i64 (upto r s 2)] 29)).drewN n).drew.setCell ⟨V.heap.size, r, none⟩ (.int .i64 (s.at_ r))) := by
  refine ⟨n + 1, ?_⟩
  have h := World.setCell_alloc_at (w := V) #[.int .i64 (upto r s 0), .int .i64 (upto r s 1), .int .i64 (upto r s 2)] 29 V.heap.size r (.int .i64 (s.at_ r)) rfl
  show ((V.alloc _).setCell _ _).drewN (n + 1) = _
  rw [h]
  have hk : r = 0 ∨ r = 1 ∨ r = 2 := by omega
  rcases hk with rfl | rfl | rfl <;> rfl

theorem each_two (k A B : Nat) (a b s : V3) (V : World) (S : Nat) (hS : V.heap.size = S) (hk : Enters k #[.pointer (some ⟨A, 0, none⟩), .pointer (some ⟨B, 0, none⟩), .pointer (some ⟨S, 0, none⟩)])
    (hA : A < V.heap.size) (hB : B < V.heap.size) (ca : ∀ r : Nat, r < 3 → V.cell? ⟨A, r, none⟩ = some (.int .i64 (a.at_ r))) (cb : ∀ r : Nat, r < 3 → V.cell? ⟨B, r, none⟩ = some (.int .i64 (b.at_ r)))
    (hc : ∀ (r : Nat) (z : Int) (w : World), r < 3 → w.cell? ⟨A, r, none⟩ = some (.int .i64 (a.at_ r)) → w.cell? ⟨B, r, none⟩ = some (.int .i64 (b.at_ r)) → w.cell? ⟨S, r, none⟩ = some (.int .i64 z) → w.frozen? ⟨S, r, none⟩ = false →
      Calls Try.prog k #[.int .i64 (r : Int), .pointer (some ⟨A, 0, none⟩), .pointer (some ⟨B, 0, none⟩), .pointer (some ⟨S, 0, none⟩)] w fun e w' => e = .returned (.tuple #[]) ∧ w' = w.drew.setCell ⟨S, r, none⟩ (.int .i64 (s.at_ r))) :
    Calls Try.prog 52 #[.func (.func k) #[] #[.pointer (some ⟨A, 0, none⟩), .pointer (some ⟨B, 0, none⟩), .pointer (some ⟨S, 0, none⟩)]] (V.alloc (.cells #[.int .i64 0, .int .i64 0, .int .i64 0] 29))
      (Kc.Drawn V #[.int .i64 s.x, .int .i64 s.y, .int .i64 s.z] 29) := by
  subst hS
  refine (each_any k _ hk (Filled V s) (fun r hr w hI => ?_) _ ⟨0, rfl⟩).mono fun e w' h => ⟨h.1, h.2⟩
  obtain ⟨n, rfl⟩ := hI
  have hS : ((V.alloc (.cells #[.int .i64 (upto r s 0), .int .i64 (upto r s 1), .int .i64 (upto r s 2)] 29)).drewN n).cell? ⟨V.heap.size, r, none⟩ = some (.int .i64 (upto r s r)) := by
    refine (World.cell?_alloc_at (w := V) _ _ _ r rfl).trans ?_
    have hk : r = 0 ∨ r = 1 ∨ r = 2 := by omega
    rcases hk with rfl | rfl | rfl <;> rfl
  refine (hc r _ _ hr ?_ ?_ hS ?_).mono ?_
  · exact (World.cell?_alloc_past (w := V) _ _ _ hA).trans (ca r hr)
  · exact (World.cell?_alloc_past (w := V) _ _ _ hB).trans (cb r hr)
  · exact World.frozen?_alloc_at (w := V) _ _ _ r rfl
  · rintro e w' ⟨rfl, rfl⟩
    exact ⟨rfl, filled_step V s r hr n⟩
end Kq

set_option maxHeartbeats 400000 in
theorem kAdd3 (u v : V3) (w : World) : Calls Try.prog 36 #[.agg #[.int .i64 u.x, .int .i64 u.y, .int .i64 u.z], .agg #[.int .i64 v.x, .int .i64 v.y, .int .i64 v.z]] w (RetBelow (.agg #[.int .i64 (Qt.add u v).x, .int .i64 (Qt.add u v).y, .int .i64 (Qt.add u v).z]) w) := by
  have hmf : ∀ (fn : Fn) (first cap : Array Value) (w : World), (Instr.makeFunc fn first cap).run Try.prog w = .ok (.func fn first cap) w := fun _ _ _ _ => rfl
  have ca := cells_three (((Holds.new w #[.int .i64 u.x, .int .i64 u.y, .int .i64 u.z] 29).kept (by simp) ((Below.refl _ _).alloc (Nat.le_refl _) (.cells #[.int .i64 v.x, .int .i64 v.y, .int .i64 v.z] 29))).kept (by simp; omega) ((Below.refl _ _).alloc (Nat.le_refl _) (.cells #[.int .i64 0, .int .i64 0, .int .i64 0] 29)))
  have cb := cells_three ((Holds.new (w.alloc (.cells #[.int .i64 u.x, .int .i64 u.y, .int .i64 u.z] 29)) #[.int .i64 v.x, .int .i64 v.y, .int .i64 v.z] 29).kept (by simp) ((Below.refl _ _).alloc (Nat.le_refl _) (.cells #[.int .i64 0, .int .i64 0, .int .i64 0] 29)))
  rw [World.size_alloc] at cb
  obtain ⟨s, hs⟩ : ∃ s, Qt.add u v = s := ⟨_, rfl⟩
  have hsk : ∀ k, s.at_ k = Qt.add1 (u.at_ k) (v.at_ k) := fun k => by rw [← hs]; exact Qt.add_at u v k
  rw [hs]
  have CA := Lib.hid ca; have CB := Lib.hid cb; have HK := Lib.hid hsk
  clear ca cb hs hsk
  go_enter Try.func36, Try.ntmps36
  go_wp2_with fail
  refine (Kq.each_two 53 w.heap.size (w.heap.size + 1) u v s
    (((w.alloc (.cells #[.int .i64 u.x, .int .i64 u.y, .int .i64 u.z] 29)).alloc (.cells #[.int .i64 v.x, .int .i64 v.y, .int .i64 v.z] 29)).alloc (.cells #[.int .i64 0, .int .i64 0, .int .i64 0] 29))
    (w.heap.size + 1 + 1 + 1) (by simp) (fun _ _ => rfl) (by simp; omega) (by simp) CA.out CB.out
    (fun r z w hr hA hB hS hf => by rw [HK.out]; exact Kq.addOne_any r hr _ _ _ _ _ z w hA hB hS hf)).mono ?_
  rintro e w' ⟨rfl, n, rfl⟩
  have hd := setCell_drewN
  go_wp2_with fail
  exact bodyPost_ret (results_cell_row (p := 4) (by kernel_rfl) _ _ (w.heap.size + 1 + 1) _ _ _ _ rfl (heap_second _ _ _ _ _ (by simp)) Try.underlying29 rfl (by kernel_rfl)) rfl ⟨rfl, below_drewN ((((((Below.refl _ w).alloc (Nat.le_refl _) _).alloc (by simp) _).alloc (by simp; omega) _).alloc (by simp; omega) _)) n⟩

theorem Qt.sub_at' (u v : V3) (k : Nat) : (Qt.sub u v).at_ k = Qt.sub1 (u.at_ k) (v.at_ k) := by
  match k with
  | 0 => rfl
  | 1 => rfl
  | k + 2 => rfl

set_option maxHeartbeats 400000 in
theorem kSub3 (u v : V3) (w : World) : Calls Try.prog 42 #[.agg #[.int .i64 u.x, .int .i64 u.y, .int .i64 u.z], .agg #[.int .i64 v.x, .int .i64 v.y, .int .i64 v.z]] w (RetBelow (.agg #[.int .i64 (Qt.sub u v).x, .int .i64 (Qt.sub u v).y, .int .i64 (Qt.sub u v).z]) w) := by
  have hmf : ∀ (fn : Fn) (first cap : Array Value) (w : World), (Instr.makeFunc fn first cap).run Try.prog w = .ok (.func fn first cap) w := fun _ _ _ _ => rfl
  have ca := cells_three (((Holds.new w #[.int .i64 u.x, .int .i64 u.y, .int .i64 u.z] 29).kept (by simp) ((Below.refl _ _).alloc (Nat.le_refl _) (.cells #[.int .i64 v.x, .int .i64 v.y, .int .i64 v.z] 29))).kept (by simp; omega) ((Below.refl _ _).alloc (Nat.le_refl _) (.cells #[.int .i64 0, .int .i64 0, .int .i64 0] 29)))
  have cb := cells_three ((Holds.new (w.alloc (.cells #[.int .i64 u.x, .int .i64 u.y, .int .i64 u.z] 29)) #[.int .i64 v.x, .int .i64 v.y, .int .i64 v.z] 29).kept (by simp) ((Below.refl _ _).alloc (Nat.le_refl _) (.cells #[.int .i64 0, .int .i64 0, .int .i64 0] 29)))
  rw [World.size_alloc] at cb
  obtain ⟨s, hs⟩ : ∃ s, Qt.sub u v = s := ⟨_, rfl⟩
  have hsk : ∀ k, s.at_ k = Qt.sub1 (u.at_ k) (v.at_ k) := fun k => by rw [← hs]; exact Qt.sub_at' u v k
  rw [hs]
  have CA := Lib.hid ca; have CB := Lib.hid cb; have HK := Lib.hid hsk
  clear ca cb hs hsk
  go_enter Try.func42, Try.ntmps42
  go_wp2_with fail
  refine (Kq.each_two 56 w.heap.size (w.heap.size + 1) u v s
    (((w.alloc (.cells #[.int .i64 u.x, .int .i64 u.y, .int .i64 u.z] 29)).alloc (.cells #[.int .i64 v.x, .int .i64 v.y, .int .i64 v.z] 29)).alloc (.cells #[.int .i64 0, .int .i64 0, .int .i64 0] 29))
    (w.heap.size + 1 + 1 + 1) (by simp) (fun _ _ => rfl) (by simp; omega) (by simp) CA.out CB.out
    (fun r z w hr hA hB hS hf => by rw [HK.out]; exact Kq.subOne_any r hr _ _ _ _ _ z w hA hB hS hf)).mono ?_
  rintro e w' ⟨rfl, n, rfl⟩
  have hd := setCell_drewN
  go_wp2_with fail
  exact bodyPost_ret (results_cell_row (p := 4) (by kernel_rfl) _ _ (w.heap.size + 1 + 1) _ _ _ _ rfl (heap_second _ _ _ _ _ (by simp)) Try.underlying29 rfl (by kernel_rfl)) rfl ⟨rfl, below_drewN ((((((Below.refl _ w).alloc (Nat.le_refl _) _).alloc (by simp) _).alloc (by simp; omega) _).alloc (by simp; omega) _)) n⟩

end Go.Proofs.Ytkakgjmajplgmaa
namespace Go.Proofs.Ytkakgjmajplgmaa
open Go Go.RowKit Go.Shelf
set_option linter.unusedVariables false
attribute [local go_sem] Oper.semAt_some

namespace Qt
def vals {L : List Int} (l : List {x : Int // x ∈ L}) : List Int := l.map (·.1)
def In40 (v : V3) : Prop := far v.x = v.x ∧ far v.y = v.y ∧ far v.z = v.z
theorem far_far (n : Int) : far (far n) = far n := by have := far_range n; exact far_in this.1 this.2
theorem in40_add (u v : V3) : In40 (add u v) := ⟨far_far _, far_far _, far_far _⟩
theorem sumL_in40 (l : List V3) : ∀ (r : List Int) (v : V3), In40 v → In40 (sumL l v r)
  | [], v, h => h
  | b :: r, v, h => sumL_in40 l r _ (in40_add _ _)
theorem add_zero {v : V3} (h : In40 v) : add v z3 = v := by
  have e : ∀ a, far a = a → add1 a 0 = a := fun a ha => by
    unfold add1
    rw [show far 0 = 0 by decide, Int.add_zero, far_far, ha]
  obtain ⟨h1, h2, h3⟩ := h
  unfold add z3
  rw [e _ h1, e _ h2, e _ h3]
theorem ath_out {l : List V3} {n : Int} (h : (l.length : Int) ≤ n) : ath l n = z3 := by unfold ath; rw [if_neg (by omega)]
theorem ath_in {l : List V3} {n : Int} (h0 : 0 ≤ n) (h : n < l.length) : l[n.toNat]? = some (ath l n) := by
  unfold ath
  rw [if_pos ⟨h0, h⟩, List.getD_eq_getElem?_getD, List.getElem?_eq_getElem (by omega), Option.getD_some]
end Qt

theorem row_own {β : Type} (g : Nat) (cs : β → Array Value) (t : TypeId) : Own (fun s W => Row W g (cs s) t) := by
  rintro s A B row hs hg hr
  refine (hg.block g hs.lt (fun e => ?_)).trans hs
  obtain ⟨o, ho, hc⟩ := hr g e.symm
  rw [show A.heap[g]? = _ from hs] at ho
  cases ho; cases hc
theorem others_but {w w' : World} {g : Nat} {cs : Array Value} {t : TypeId} (hr : Row w g cs t) (h : But g w w') : KeepsOthers w w' :=
  ⟨h.size, fun k o hk ho => (h.block k (Array.getElem?_eq_some_iff.1 hk).1 (fun e => by
    subst e
    rw [show w.heap[k]? = _ from hr] at hk
    cases hk; cases ho)).trans hk⟩
theorem Kb.of_but {B : Nat} {w w' : World} (h : But B w w') (hp : ∀ v, w'.cell? ⟨B, 0, none⟩ = some v → v.ownBlock = none) : Kb B w w' :=
  ⟨h.os, h.tape, h.output, h.size, fun k o hk _ hB _ => (h.block k (Array.getElem?_eq_some_iff.1 hk).1 hB).trans hk, fun v' hv' => .inr fun k e => by rw [hp v' hv'] at e; cases e⟩
theorem row_putObj {w : World} {g : Nat} {cs : Array Value} {t : TypeId} (h : Row w g cs t) {l : Nat} {o : Obj} (o' : Obj) (hl : w.heap[l]? = some o) (ho : o.isCells = false) : Row (w.putObj l o') g cs t :=
  (row_own (β := Unit) g (fun _ => cs) t).putObj (s := ()) o' h hl ho

theorem set_three {w : World} {g : Nat} {x y z : Int} {t : TypeId} (h : Row w g #[.int .i64 x, .int .i64 y, .int .i64 z] t) (v : V3) :
    Row (((w.setCell ⟨g, 0, none⟩ (.int .i64 v.x)).setCell ⟨g, 1, none⟩ (.int .i64 v.y)).setCell ⟨g, 2, none⟩ (.int .i64 v.z)) g v.c t ∧ But g w (((w.setCell ⟨g, 0, none⟩ (.int .i64 v.x)).setCell ⟨g, 1, none⟩ (.int .i64 v.y)).setCell ⟨g, 2, none⟩ (.int .i64 v.z)) :=
  ⟨((h.set 0 (.int .i64 v.x)).set 1 (.int .i64 v.y)).set 2 (.int .i64 v.z), (((But.refl g w).setCell (p := ⟨g, 0, none⟩) (.inr rfl) _).setCell (p := ⟨g, 1, none⟩) (.inr rfl) _).setCell (p := ⟨g, 2, none⟩) (.inr rfl) _⟩

set_option maxRecDepth 100000 in
set_option maxHeartbeats 2000000 in
theorem qSum_in (F : Fence) (hF : Wd F) (n : Nat) (hn : 4 ≤ n) (c : Cmd) (an : Option Addr) (cn nb no : Nat) (ah : Option Addr) (ch hb ho : Nat) (m0 : Int) (used : List V3) (ao : Option Addr) (cap ub uo : Nat) (w : World) (hN : Sl Nd.c 22 11 w an cn nb no c.nodes) (hH : Sl Hs.c 23 6 w ah ch hb ho c.hosts) (h300 : c.nodes.length ≤ 300)
    (hU : Sl V3.c 26 3 w ao cap ub uo used) :
    CallsIn F n Try.prog 40 #[.agg #[.slice an c.nodes.length cn, .slice ah c.hosts.length ch, .int .i64 c.half, .int .i64 c.age], .int .i64 m0, .slice ao used.length cap] w fun e w' => e = .returned (.agg (Qt.sum c.nodes m0 used).c) ∧ Below w.heap.size w w' := by
  have hro := hF.ro
  have hfa := hF.all
  have h1 : 1 ≤ n := by omega
  have hd1 : 1 ≤ n - 1 - 1 := by omega
  have hmx : Try.prog.follows .mixedOrders = true := by kernel_rfl
  refine callsIn_of_wp_marks Try.func40 rfl (hfa _) ?_ hro
  simp only [Try.ntmps40, List.size_toArray, List.length_cons, List.length_nil, Nat.reduceAdd, Nat.reduceSub, Array.replicate_succ, Array.replicate_zero, List.push_toArray, List.append_toArray, List.nil_append, List.cons_append]
  gi_wp2_with fail
  refine (hF.lift (qLeavesBelow an c.nodes.length cn ah c.hosts.length ch c.half c.age m0 _)).mono ?_
  rintro er w4 ⟨rfl, rfl⟩
  obtain ⟨W4, hW4⟩ : ∃ V, (((w.alloc (.cells #[.slice an c.nodes.length cn, .slice ah c.hosts.length ch, .int .i64 c.half, .int .i64 c.age] 25)).alloc (.cells #[.slice ao used.length cap] 26)).alloc (.cells #[.int .i64 0, .int .i64 0, .int .i64 0] 29)).alloc (.cells #[.int .i64 0, .int .i64 0, .int .i64 0] 29) = V := ⟨_, rfl⟩
  have hs4 : W4.heap.size = w.heap.size + 4 := by rw [← hW4]; simp
  have c1 : Row W4 (w.heap.size + 1) #[.slice ao used.length cap] 26 := by
    have h := ((Row.new (w.alloc (.cells #[.slice an c.nodes.length cn, .slice ah c.hosts.length ch, .int .i64 c.half, .int .i64 c.age] 25)) #[.slice ao used.length cap] 26).under ((Below.refl _ _).alloc (Nat.le_refl _) (.cells #[.int .i64 0, .int .i64 0, .int .i64 0] 29))).under ((Below.refl _ _).alloc (Nat.le_refl _) (.cells #[.int .i64 0, .int .i64 0, .int .i64 0] 29))
    rw [World.size_alloc, hW4] at h
    exact h
  have c3 : Row W4 (w.heap.size + 1 + 1 + 1) #[.int .i64 0, .int .i64 0, .int .i64 0] 29 := by
    have h := Row.new ((((w.alloc (.cells #[.slice an c.nodes.length cn, .slice ah c.hosts.length ch, .int .i64 c.half, .int .i64 c.age] 25)).alloc (.cells #[.slice ao used.length cap] 26)).alloc (.cells #[.int .i64 0, .int .i64 0, .int .i64 0] 29))) #[.int .i64 0, .int .i64 0, .int .i64 0] 29
    rw [World.size_alloc, World.size_alloc, World.size_alloc, hW4] at h
    exact h
  have c2 : Row W4 (w.heap.size + 1 + 1) #[.int .i64 0, .int .i64 0, .int .i64 0] 29 := by
    have h := (Row.new (((w.alloc (.cells #[.slice an c.nodes.length cn, .slice ah c.hosts.length ch, .int .i64 c.half, .int .i64 c.age] 25)).alloc (.cells #[.slice ao used.length cap] 26))) #[.int .i64 0, .int .i64 0, .int .i64 0] 29).under ((Below.refl _ _).alloc (Nat.le_refl _) (.cells #[.int .i64 0, .int .i64 0, .int .i64 0] 29))
    rw [World.size_alloc, World.size_alloc, hW4] at h
    exact h
  have b4 : Below w.heap.size w W4 := by rw [← hW4]; exact ((((Below.refl _ w).alloc (Nat.le_refl _) _).alloc (by simp) _).alloc (by simp; omega) _).alloc (by simp; omega) _
  rw [hW4]
  clear hW4
  have b6 := two_below W4 (.cells #[.slice an c.nodes.length cn, .slice ah c.hosts.length ch, .int .i64 c.half, .int .i64 c.age] 25) (.cells #[.int .i64 m0] 3)
  have d1 := c1.under b6; have d2 := c2.under b6; have d3 := c3.under b6
  have d4 : Row ((W4.alloc (.cells #[.slice an c.nodes.length cn, .slice ah c.hosts.length ch, .int .i64 c.half, .int .i64 c.age] 25)).alloc (.cells #[.int .i64 m0] 3)) W4.heap.size #[.slice an c.nodes.length cn, .slice ah c.hosts.length ch, .int .i64 c.half, .int .i64 c.age] 25 := (Row.new W4 _ _).under ((Below.refl _ _).alloc (Nat.le_refl _) _)
  have d5 := Row.new (W4.alloc (.cells #[.slice an c.nodes.length cn, .slice ah c.hosts.length ch, .int .i64 c.half, .int .i64 c.age] 25)) #[.int .i64 m0] 3
  rw [World.size_alloc] at d5
  have hB0 := b4.trans (b6.mono b4.size)
  obtain ⟨V, hV⟩ : ∃ V, (W4.alloc (.cells #[.slice an c.nodes.length cn, .slice ah c.hosts.length ch, .int .i64 c.half, .int .i64 c.age] 25)).alloc (.cells #[.int .i64 m0] 3) = V := ⟨_, rfl⟩
  have hVs : V.heap.size = w.heap.size + 6 := by rw [← hV, World.size_alloc, World.size_alloc, hs4]
  rw [hV, hs4] at d4 d5 ⊢
  rw [hV] at d1 d2 d3 hB0
  clear hV c1 c2 c3 b6
  gi_wp2_with fail
  refine wpIn_rangeFunc_ownG hro h1 (gf := 63) (lb := #[.pointer (some ⟨w.heap.size + 4, 0, none⟩), .pointer (some ⟨w.heap.size + 4 + 1, 0, none⟩)]) rfl (hfa _) (enters_of Try.func63 (by kernel_rfl) rfl)
    (qLeaf_stopsS F hF (n - 1) (by omega) (w.heap.size + 1 + 1 + 1) (w.heap.size + 4) (w.heap.size + 4 + 1) c an cn nb no ah ch hb ho m0 V (by omega) (fun v hv => by rw [d3.at_ 0] at hv; cases hv; rfl) h300 (hN.kept hB0) (hH.kept hB0) d4 d5)
    Kb.trans (Kb.putObj (by omega)) (Below.refl _ _) (fun _ => rfl)
    (fun (pre : List {x : Int // x ∈ Qt.below c.nodes m0}) W => (Row W (w.heap.size + 1 + 1 + 1) (Qt.sumL used Qt.z3 (Qt.vals pre)).c 29 ∧ Row W (w.heap.size + 1) #[.slice ao used.length cap] 26 ∧ Row W (w.heap.size + 1 + 1) #[.int .i64 0, .int .i64 0, .int .i64 0] 29) ∧ Below w.heap.size w W)
    (fun _ _ _ => False)
    (OwnFrom.and (OwnFrom.and (Own.from (row_own _ (fun (pre : List {x : Int // x ∈ Qt.below c.nodes m0}) => (Qt.sumL used Qt.z3 (Qt.vals pre)).c) _) _) (OwnFrom.and (Own.from (row_own _ (fun _ => #[.slice ao used.length cap]) _) _) (Own.from (row_own _ (fun _ => #[.int .i64 0, .int .i64 0, .int .i64 0]) _) _))) (ownFrom_below (Nat.le_refl _) (by omega)))
    (fun _ _ _ _ _ hs _ _ => hs)
    ⟨⟨d3, d1, d2⟩, hB0⟩
    ?a1 ?assign ?body ?done ?stop
  case assign =>
    intro l x W K hK
    gi_wp2
    exact hK
  case body =>
    rintro l pre ⟨x, hxm⟩ W ⟨⟨r3, r1, r2⟩, hB⟩ hlt
    have hx0 := (Qt.leaf_in (Qt.mem_below.1 hxm).1).1
    have hxs := (Qt.leaf_in (Qt.mem_below.1 hxm).1).2
    have hsn : Qt.sumL used Qt.z3 (Qt.vals pre ++ [x]) = Qt.add (Qt.sumL used Qt.z3 (Qt.vals pre)) (Qt.ath used x) := Qt.sumL_snoc _ _ _ _
    have h40 := Qt.sumL_in40 used (Qt.vals pre) Qt.z3 ⟨rfl, rfl, rfl⟩
    have hmap : Qt.vals (pre ++ [⟨x, hxm⟩]) = Qt.vals pre ++ [x] := by simp [Qt.vals]
    obtain ⟨s, hs⟩ : ∃ s, Qt.sumL used Qt.z3 (Qt.vals pre) = s := ⟨_, rfl⟩
    rw [hs] at r3 hsn h40
    have k1 : W.cell? ⟨w.heap.size + 1, 0, none⟩ = some (.slice ao used.length cap) := r1.at_ 0
    by_cases hxl : x < used.length
    · have hat := Qt.ath_in hx0 hxl
      have hi := hU.idx x.toNat (by omega)
      rw [show ((x.toNat : Nat) : Int) = x by omega] at hi
      have hub := hU.lt (by omega)
      have hU2 := hU.kept hB
      have hr := hU2.at_ x.toNat _ hat
      obtain ⟨y, hy⟩ : ∃ y, Qt.ath used x = y := ⟨_, rfl⟩
      rw [hy] at hsn hr
      obtain ⟨oi, hoi⟩ : ∃ k, uo + x.toNat * 3 = k := ⟨_, rfl⟩
      rw [hoi] at hi hr
      obtain ⟨sx, sy, sz⟩ := s
      obtain ⟨yx, yy, yz⟩ := y
      have hub2 : ub < W.heap.size := Nat.lt_of_lt_of_le hub hB.size
      have f0 : W.cell? ⟨w.heap.size + 1 + 1 + 1, 0, none⟩ = some (.int .i64 sx) := r3.at_ 0
      have f1 : W.cell? ⟨w.heap.size + 1 + 1 + 1, 1, none⟩ = some (.int .i64 sy) := r3.at_ 1
      have f2 : W.cell? ⟨w.heap.size + 1 + 1 + 1, 2, none⟩ = some (.int .i64 sz) := r3.at_ 2
      have e0 : W.cell? ⟨ub, oi, none⟩ = some (.int .i64 yx) := hr 0 _ rfl
      have e1 : W.cell? ⟨ub, oi + 1, none⟩ = some (.int .i64 yy) := hr 1 _ rfl
      have e2 : W.cell? ⟨ub, oi + 2, none⟩ = some (.int .i64 yz) := hr 2 _ rfl
      have hq : Hid (∀ w2, Below W.heap.size W w2 → Row w2 (w.heap.size + 1 + 1 + 1) #[.int .i64 sx, .int .i64 sy, .int .i64 sz] 29) := Lib.hid (fun w2 g => r3.under g)
      have H := Lib.hid hsn; have R3 := Lib.hid r3; have HM := Lib.hid hmap; have HS := Lib.hid hs
      clear hsn r3 hmap hs h40 hr hat hoi hy hU2
      gi_wp2_with fail
      gi_region_with_o (gi_at_call 36; refine (CallsIn.inRound l (hF.lift (kAdd3 ⟨sx, sy, sz⟩ ⟨yx, yy, yz⟩ _))).mono ?_; rintro e w2 ⟨rfl, b2⟩; have rr := hq.out w2 ⟨b2.os, b2.tape, b2.output, b2.size, b2.block⟩; have q0 := rr.at_ 0; have q1 := rr.at_ 1; have q2 := rr.at_ 2; have p0 := rr.soft 0; have p1 := rr.soft 1; have p2 := rr.soft 2)
      all_goals (
        gi_wp2
        obtain ⟨z1, z2⟩ := set_three rr (Qt.add ⟨sx, sy, sz⟩ ⟨yx, yy, yz⟩)
        have zb : But (w.heap.size + 1 + 1 + 1) W _ := (But.of_below (b := w.heap.size + 1 + 1 + 1) (⟨b2.os, b2.tape, b2.output, b2.size, b2.block⟩ : Below W.heap.size W w2)).trans z2
        exact ⟨(others_but R3.out zb).from _, Kb.of_but zb (fun v hv => by rw [z1.at_ 0] at hv; cases hv; rfl), ⟨by rw [HM.out, H.out]; exact z1, r1.keep zb (by omega), r2.keep zb (by omega)⟩, hB.trans (zb.below (by omega) hB.size)⟩)
    · rw [Qt.ath_out (by omega), Qt.add_zero h40] at hsn
      have H := Lib.hid hsn; have R3 := Lib.hid r3; have HM := Lib.hid hmap; have HS := Lib.hid hs
      clear hsn r3 hmap hs h40
      gi_wp2_with fail
      exact ⟨KeepsFrom.refl _ _, Kb.refl _ _, ⟨by rw [HM.out, H.out]; exact R3.out, r1, r2⟩, hB⟩
  case done =>
    rintro D ys W hD hys ⟨⟨r3, r1, r2⟩, hB⟩ hK
    rw [show Qt.vals ys = Qt.below c.nodes m0 from hys] at r3
    have hsum : Qt.sumL used Qt.z3 (Qt.below c.nodes m0) = Qt.sum c.nodes m0 used := rfl
    rw [hsum] at r3
    obtain ⟨s, hs⟩ : ∃ s, Qt.sum c.nodes m0 used = s := ⟨_, rfl⟩
    rw [hs] at r3
    clear hsum
    obtain ⟨sx, sy, sz⟩ := s
    have f0 : W.cell? ⟨w.heap.size + 1 + 1 + 1, 0, none⟩ = some (.int .i64 sx) := r3.at_ 0
    have f1 : W.cell? ⟨w.heap.size + 1 + 1 + 1, 1, none⟩ = some (.int .i64 sy) := r3.at_ 1
    have f2 : W.cell? ⟨w.heap.size + 1 + 1 + 1, 2, none⟩ = some (.int .i64 sz) := r3.at_ 2
    have g3 := r2.soft 0
    have g4 := r2.soft 1
    have g5 := r2.soft 2
    have g0 : W.cell? ⟨w.heap.size + 1 + 1, 0, none⟩ = some (.int .i64 0) := r2.at_ 0
    have g1 : W.cell? ⟨w.heap.size + 1 + 1, 1, none⟩ = some (.int .i64 0) := r2.at_ 1
    have g2 : W.cell? ⟨w.heap.size + 1 + 1, 2, none⟩ = some (.int .i64 0) := r2.at_ 2
    gi_wp2_with fail
    obtain ⟨z1, z2⟩ := set_three (x := 0) (y := 0) (z := 0) r2 ⟨sx, sy, sz⟩
    have hDg : D ≠ w.heap.size + 1 + 1 := by omega
    have hK' := (z2.block D (Array.getElem?_eq_some_iff.1 hK).1 hDg).trans hK
    refine ⟨by simp, .inl ⟨_, _, rfl, run_takeDeferred hK', ?_⟩⟩
    exact ⟨_, results_cell_row (p := 6) (by kernel_rfl) _ _ (w.heap.size + 1 + 1) _ _ _ _ rfl (row_putObj z1 _ hK' rfl) Try.underlying29 rfl (by kernel_rfl), by rw [hs], (hB.trans (z2.below (by omega) hB.size)).trans (belowK_b (w := w) (Nat.le_refl _) _ D _ _ (by omega) hK' rfl rfl)⟩
  case stop =>
    rintro D c pre W _ _ h _
    exact h.elim

theorem qSum (c : Cmd) (vn vh : Value) (n : Int) (used : List V3) (ao : Option Addr) (cap ub uo : Nat) (w : World) (h300 : c.nodes.length ≤ 300) (h : CmAt c vn vh w) (hU : Sl V3.c 26 3 w ao cap ub uo used) :
    Calls Try.prog 40 #[.agg (c.f vn vh), .int .i64 n, .slice ao used.length cap] w (RetBelow (.agg (Qt.sum c.nodes n used).c) w) := by
  obtain ⟨an, cn, nb, no, ah, ch, hb, ho, rfl, rfl, s1, s2⟩ := h
  exact callsIn_wide.1 (qSum_in Fence.wide Wd.wide 4 (Nat.le_refl _) c an cn nb no ah ch hb ho n used ao cap ub uo w s1 s2 h300 hU)

end Go.Proofs.Ytkakgjmajplgmaa
