/- Configurations: what the program is held to; one, few, awake. -/
import Derived.Test.YtmpmnehapildeaaCfgB
import Derived.Laws.OwnMore
namespace Go.Proofs.Ytmpmnehapildeaa
open Go.RowKit
set_option linter.unusedVariables false

/-- A configuration's cells (of a command's fields of that name). -/
def Cmd.f (c : Cmd) (vn vh : Value) : Array Value := #[vn, vh, .int .i64 c.half, .int .i64 c.age]
/-- A slice of numbers. -/
def intC (k : Int) : Array Value := #[.int .i64 k]
def Cmd.few9 (c : Cmd) : Prop := c.nodes.length ≤ 300 ∧ c.hosts.length ≤ 2000

structure CfC where
  check : ∀ (c : Cmd) vn vh w, c.wide → CmAt c vn vh w → Calls Try.prog 8 #[.agg (c.f vn vh)] w (RetBelow (.int .i64 (Cf.check c)) w)
  leaf : ∀ (c : Cmd) vn vh (n : Int) w, c.wide → In64 n → c.nodes.length ≤ 300 → CmAt c vn vh w → Calls Try.prog 12 #[.agg (c.f vn vh), .int .i64 n] w (RetBelow (.bool (Cf.leaf c.nodes n)) w)
  leaves : ∀ (c : Cmd) vn vh w, c.wide → c.nodes.length ≤ 300 → CmAt c vn vh w → Calls Try.prog 13 #[.agg (c.f vn vh)] w fun e w' => ∃ (ao : Option Addr) (cap bb oo : Nat),
    e = .returned (.slice ao (Cf.leaves c.nodes).length cap) ∧ Sl intC 37 1 w' ao cap bb oo (Cf.leaves c.nodes) ∧ Below w.heap.size w w'
  same : ∀ (a b : Cmd) va ha vb hb w, a.wide → a.few9 → b.wide → b.few9 → CmAt a va ha w → CmAt b vb hb w → Calls Try.prog 10 #[.agg (a.f va ha), .agg (b.f vb hb)] w (RetBelow (.bool (Cm.sameC a b)) w)

theorem rCheck9At {c : Cmd} {vn vh : Value} {w : World} (h : CmAt c vn vh w) : Calls Try.prog 9 #[.agg (c.f vn vh)] w (RetBelow (.int .i64 (Cf.check c)) w) := by
  obtain ⟨an, cn, nb, no, ah, ch, hb, ho, rfl, rfl, h1, h2⟩ := h
  exact rCheck9_any c an ah cn ch nb no hb ho w h1 h2

theorem rConfigAt {a b : Cmd} {va ha vb hb : Value} {w : World} (h1 : CmAt a va ha w) (h2 : CmAt b vb hb w) : Calls Try.prog 11 #[.agg (a.f va ha), .agg (b.f vb hb)] w (RetBelow (.bool (Cm.sameC a b)) w) := by
  obtain ⟨an, cn, nb, no, ah, ch, hb, ho, rfl, rfl, s1, s2⟩ := h1
  obtain ⟨bn, cn', nb', no', bh, ch', hb', ho', rfl, rfl, s3, s4⟩ := h2
  exact rConfig_any a b an ah bn bh cn ch nb no hb ho cn' ch' nb' no' hb' ho' w s1 s2 s3 s4

theorem few9_any (c : Cmd) (vn vh : Value) (w : World) (h : CmAt c vn vh w) : Calls Try.prog 6 #[.agg (c.f vn vh)] w (RetBelow (.bool (decide (c.nodes.length ≤ 300) && decide (c.hosts.length ≤ 2000))) w) := by
  obtain ⟨an, cn, nb, no, ah, ch, hb, ho, rfl, rfl, h1, h2⟩ := h
  have s1 := h1.small; have s2 := h2.small
  clear h1 h2
  obtain ⟨kind, nodes, hosts, half, age, g, n⟩ := c
  simp only [Cmd.f] at *
  obtain ⟨nl, hnl⟩ : ∃ n, nodes.length = n := ⟨_, rfl⟩
  obtain ⟨hl, hhl⟩ : ∃ n, hosts.length = n := ⟨_, rfl⟩
  rw [hnl] at s1 ⊢
  rw [hhl] at s2 ⊢
  clear hnl hhl
  obtain ⟨zn, hzn⟩ : ∃ z : Int, (nl : Int) = z := ⟨_, rfl⟩
  obtain ⟨zh, hzh⟩ : ∃ z : Int, (hl : Int) = z := ⟨_, rfl⟩
  have e : Hid ((decide (nl ≤ 300) && decide (hl ≤ 2000)) = (decide (zn ≤ 300) && decide (zh ≤ 2000))) := Lib.hid (by rw [Bool.eq_iff_iff]; simp only [Bool.and_eq_true, decide_eq_true_eq]; omega)
  by_cases h : zn ≤ 300
  · by_cases h2 : zh ≤ 2000
    · go_enter Try.func6, Try.ntmps6
      go_wp2_with fail
      go_ret
      exact ⟨by rw [e.out]; simp [h, h2], (Below.refl _ _).alloc (Nat.le_refl _) _⟩
    · go_enter Try.func6, Try.ntmps6
      go_wp2_with fail
      go_ret
      exact ⟨by rw [e.out]; simp [h2], (Below.refl _ _).alloc (Nat.le_refl _) _⟩
  · go_enter Try.func6, Try.ntmps6
    go_wp2_with fail
    go_ret
    exact ⟨by rw [e.out, decide_eq_false (by omega : ¬ zn ≤ 300)]; rfl, (Below.refl _ _).alloc (Nat.le_refl _) _⟩

namespace Cf
/-- The least configuration. -/
def one : Cmd := ⟨0, [⟨-1, 1, ⟨0, 0, 0⟩, ⟨0, 0, 0⟩, ⟨0, 0, 0⟩⟩], [⟨0, 0, 0, ⟨0, 0, 0⟩⟩], 1, 0, Cm.zG, 0⟩
def none : Cmd := ⟨0, [], [], 0, 0, Cm.zG, 0⟩
theorem check_one : check one = 0 := by decide
theorem check_none : check none = 2 := by decide
theorem leaf_one : leaf one.nodes 0 = true := by decide
theorem leaf_two : leaf one.nodes 1 = false := by decide
theorem leaves_one : leaves one.nodes = [0] := by decide
theorem same_one : Cm.sameC one one = true := by decide
theorem one_wide : one.wide := by
  have i1 : In64 (-1) := by unfold In64; omega
  have i2 : In64 1 := by unfold In64; omega
  refine ⟨in64_zero, fun n h => ?_, fun n h => ?_, i2, in64_zero, gg_zero, in64_zero⟩
  · simp only [one, List.mem_singleton] at h
    subst h
    exact ⟨i1, i2, ⟨in64_zero, in64_zero, in64_zero⟩, ⟨in64_zero, in64_zero, in64_zero⟩, ⟨in64_zero, in64_zero, in64_zero⟩⟩
  · simp only [one, List.mem_singleton] at h
    subst h
    exact ⟨in64_zero, in64_zero, in64_zero, ⟨in64_zero, in64_zero, in64_zero⟩⟩
theorem none_wide : none.wide := ⟨in64_zero, fun n h => by simp [none] at h, fun n h => by simp [none] at h, in64_zero, in64_zero, gg_zero, in64_zero⟩
end Cf

theorem one_any (w : World) : Calls Try.prog 14 #[] w fun e w' => ∃ vn vh, e = .returned (.agg #[vn, vh, .int .i64 1, .int .i64 0]) ∧ CmAt Cf.one vn vh w' ∧ Below w.heap.size w w' := by
  go_enter Try.func14, Try.ntmps14
  go_wp2_with fail
  have r1 := (Row.new w #[.slice (some ⟨w.heap.size + 1, 0, none⟩) 1 1, .slice (some ⟨w.heap.size + 1 + 1, 0, none⟩) 1 1, .int .i64 1, .int .i64 0] 25).under ((((Below.refl _ _).alloc (Nat.le_refl _) (.cells #[.int .i64 (-1), .int .i64 1, .int .i64 0, .int .i64 0, .int .i64 0, .int .i64 0, .int .i64 0, .int .i64 0, .int .i64 0, .int .i64 0, .int .i64 0] 35)).alloc (by simp) (.cells #[.int .i64 0, .int .i64 0, .int .i64 0, .int .i64 0, .int .i64 0, .int .i64 0] 44)))
  have o1 := World.ownsRow_lit (e := 35) (base := 0) (size := 11) (w.alloc (.cells #[.slice (some ⟨w.heap.size + 1, 0, none⟩) 1 1, .slice (some ⟨w.heap.size + 1 + 1, 0, none⟩) 1 1, .int .i64 1, .int .i64 0] 25)) #[.int .i64 (-1), .int .i64 1, .int .i64 0, .int .i64 0, .int .i64 0, .int .i64 0, .int .i64 0, .int .i64 0, .int .i64 0, .int .i64 0, .int .i64 0] 1 (Nat.zero_le _) (by unfold maxLen; omega) rfl
  have o2 := World.ownsRow_lit (e := 44) (base := 0) (size := 6) ((w.alloc (.cells #[.slice (some ⟨w.heap.size + 1, 0, none⟩) 1 1, .slice (some ⟨w.heap.size + 1 + 1, 0, none⟩) 1 1, .int .i64 1, .int .i64 0] 25)).alloc (.cells #[.int .i64 (-1), .int .i64 1, .int .i64 0, .int .i64 0, .int .i64 0, .int .i64 0, .int .i64 0, .int .i64 0, .int .i64 0, .int .i64 0, .int .i64 0] 35)) #[.int .i64 0, .int .i64 0, .int .i64 0, .int .i64 0, .int .i64 0, .int .i64 0] 1 (Nat.zero_le _) (by unfold maxLen; omega) rfl
  have o1' := World.ownsRow.alloc o1 (.cells #[.int .i64 0, .int .i64 0, .int .i64 0, .int .i64 0, .int .i64 0, .int .i64 0] 44)
  rw [World.size_alloc] at o1' o2
  rw [World.size_alloc] at o2
  have g : Below w.heap.size w (((w.alloc (.cells #[.slice (some ⟨w.heap.size + 1, 0, none⟩) 1 1, .slice (some ⟨w.heap.size + 1 + 1, 0, none⟩) 1 1, .int .i64 1, .int .i64 0] 25)).alloc (.cells #[.int .i64 (-1), .int .i64 1, .int .i64 0, .int .i64 0, .int .i64 0, .int .i64 0, .int .i64 0, .int .i64 0, .int .i64 0, .int .i64 0, .int .i64 0] 35)).alloc (.cells #[.int .i64 0, .int .i64 0, .int .i64 0, .int .i64 0, .int .i64 0, .int .i64 0] 44)) := (two_below _ _ _).alloc (two_below _ _ _).size _
  refine bodyPost_ret (results_cell_row (p := 0) (by kernel_rfl) _ _ w.heap.size _ _ _ _ rfl r1 Try.underlying25 rfl config_len) rfl ?_
  exact ⟨_, _, rfl, CmAt.of_rows (c := Cf.one) (A := 0) (B := 0) o1' o2, g⟩

set_option maxHeartbeats 1000000 in
set_option maxRecDepth 8000 in
theorem fAwake_any (C : CfC) (w : World) : Calls Try.prog 7 #[] w (RetBelow (.bool true) w) := by
  have f1 : Cf.one.few9 := ⟨by simp [Cf.one], by simp [Cf.one]⟩
  have f0 : Cf.none.few9 := ⟨by simp [Cf.none], by simp [Cf.none]⟩
  have l1 : Cf.one.nodes.length ≤ 300 := f1.1
  have e1 := fun vn vh w h => C.leaves Cf.one vn vh w Cf.one_wide l1 h
  have e2 := fun vn vh w h => C.check Cf.one vn vh w Cf.one_wide h
  have e3 := fun w => C.check Cf.none (.slice none 0 0) (.slice none 0 0) w Cf.none_wide (CmAt.none _ _ rfl rfl)
  have e4 := fun vn vh w h => C.leaf Cf.one vn vh 0 w Cf.one_wide in64_zero l1 h
  have e5 := fun vn vh w h => C.leaf Cf.one vn vh 1 w Cf.one_wide (by unfold In64; omega) l1 h
  have e6 := fun va ha vb hb w h h' => C.same Cf.one Cf.one va ha vb hb w Cf.one_wide f1 Cf.one_wide f1 h h'
  rw [Cf.leaves_one] at e1
  rw [Cf.check_one] at e2
  rw [Cf.check_none] at e3
  rw [Cf.leaf_one] at e4
  rw [Cf.leaf_two] at e5
  rw [Cf.same_one] at e6
  simp only [Cmd.f, Cf.one, Cf.none] at e1 e2 e3 e4 e5 e6
  have E1 := Lib.hid e1; have E2 := Lib.hid e2; have E3 := Lib.hid e3; have E4 := Lib.hid e4; have E5 := Lib.hid e5; have E6 := Lib.hid e6
  have cO := Lib.hid one_any
  clear e1 e2 e3 e4 e5 e6 f1 f0 l1
  go_enter Try.func7, Try.ntmps7
  go_wp2_with fail
  refine (cO.out _).mono ?_
  rintro er w1 ⟨vn, vh, rfl, h1, b1⟩
  obtain ⟨an, ln, cn, ah, lh, ch, rfl, rfl⟩ := h1.slices
  have B1 := Lib.hid b1; have H1 := Lib.hid h1; clear b1 h1
  go_wp2_with fail
  refine (E1.out _ _ _ H1.out).mono ?_
  rintro er w2 ⟨ao, cap, bb, oo, rfl, sl, b2⟩
  have SL := Lib.hid sl; have B2 := Lib.hid (below_trans B1.out b2); clear b2 sl
  go_wp2_with fail
  refine (cO.out _).mono ?_
  rintro er w3 ⟨vn, vh, rfl, h3, b3⟩
  obtain ⟨an, ln, cn, ah, lh, ch, rfl, rfl⟩ := h3.slices
  have B3 := Lib.hid (below_trans B2.out b3); have H3 := Lib.hid h3; have S3 := Lib.hid (SL.out.kept b3); clear b3 h3
  go_wp2_with fail
  refine (E2.out _ _ _ H3.out).mono ?_
  rintro er w4 ⟨rfl, b4⟩
  have B4 := Lib.hid (below_trans B3.out b4); have S4 := Lib.hid (S3.out.kept b4); clear b4
  go_wp2_with fail
  refine (E3.out _).mono ?_
  rintro er w5 ⟨rfl, b5⟩
  have B5 := Lib.hid (below_trans B4.out b5); have S5 := Lib.hid (S4.out.kept b5); clear b5
  go_wp2_with fail
  refine (cO.out _).mono ?_
  rintro er w6 ⟨vn, vh, rfl, h6, b6⟩
  obtain ⟨an, ln, cn, ah, lh, ch, rfl, rfl⟩ := h6.slices
  have B6 := Lib.hid (below_trans B5.out b6); have H6 := Lib.hid h6; have S6 := Lib.hid (S5.out.kept b6); clear b6 h6
  go_wp2_with fail
  refine (E4.out _ _ _ H6.out).mono ?_
  rintro er w7 ⟨rfl, b7⟩
  have B7 := Lib.hid (below_trans B6.out b7); have S7 := Lib.hid (S6.out.kept b7); clear b7
  go_wp2_with fail
  refine (cO.out _).mono ?_
  rintro er w8 ⟨vn, vh, rfl, h8, b8⟩
  obtain ⟨an, ln, cn, ah, lh, ch, rfl, rfl⟩ := h8.slices
  have B8 := Lib.hid (below_trans B7.out b8); have H8 := Lib.hid h8; have S8 := Lib.hid (S7.out.kept b8); clear b8 h8
  go_wp2_with fail
  refine (E5.out _ _ _ H8.out).mono ?_
  rintro er w9 ⟨rfl, b9⟩
  have B9 := Lib.hid (below_trans B8.out b9); have s9 := S8.out.kept b9; clear b9
  have hi : ∀ w0, (Instr.indexAt 37 (.slice ao 1 cap) (.int .i64 0)).run Try.prog w0 = .ok (.pointer (some ⟨bb, oo, none⟩)) w0 := s9.idx 0 (by simp)
  have hc : w9.cell? ⟨bb, oo, none⟩ = some (.int .i64 0) := s9.at_ 0 0 rfl 0 _ rfl
  clear s9
  go_wp2_with fail
  refine (cO.out _).mono ?_
  rintro er w10 ⟨vn, vh, rfl, h10, b10⟩
  obtain ⟨an, ln, cn, ah, lh, ch, rfl, rfl⟩ := h10.slices
  have B10 := Lib.hid (below_trans B9.out b10); have H10 := Lib.hid h10; clear b10 h10 hi hc
  go_wp2_with fail
  refine (cO.out _).mono ?_
  rintro er w11 ⟨un, uh, rfl, h11, b11⟩
  obtain ⟨an', ln', cn', ah', lh', ch', rfl, rfl⟩ := h11.slices
  have B11 := Lib.hid (below_trans B10.out b11); have H11 := Lib.hid h11; have K11 := Lib.hid (H10.out.kept b11); clear b11 h11
  go_wp2_with fail
  refine (E6.out _ _ _ _ _ K11.out H11.out).mono ?_
  rintro er w12 ⟨rfl, b12⟩
  have B12 := Lib.hid (below_trans B11.out b12); clear b12
  go_wp2_with fail
  go_ret
  exact ⟨rfl, B12.out⟩

end Go.Proofs.Ytmpmnehapildeaa
