/- Quotas: what the program is held to; the statements' may, two, awake. -/
import Derived.Test.YtkakgjmajplgmaaQtE
import Derived.Test.YtkakgjmajplgmaaCfgC
import Derived.Test.YtkakgjmajplgmaaVecEq
namespace Go.Proofs.Ytkakgjmajplgmaa
open Go.RowKit
set_option linter.unusedVariables false

structure QuC where
  may : ∀ (c : Cmd) vn vh (used : List V3) ao cap bb oo (t : Int) (need : V3) w, c.wide → Cf.check c = 0 → CmAt c vn vh w → Sl V3.c 26 3 w ao cap bb oo used → (∀ v ∈ used, v.wide) → used.length ≤ 100 → In64 t → need.wide →
    Calls Try.prog 8 #[.agg (c.f vn vh), .slice ao used.length cap, .int .i64 t, .agg need.c] w (RetBelow (.bool (Qt.may c.nodes used t need)) w)
  within : ∀ (c : Cmd) vn vh (used : List V3) ao cap bb oo (t : Int) (need : V3) w, c.wide → Cf.check c = 0 → CmAt c vn vh w → Sl V3.c 26 3 w ao cap bb oo used → (∀ v ∈ used, v.wide) → used.length ≤ 100 → In64 t → need.wide →
    Calls Try.prog 16 #[.agg (c.f vn vh), .slice ao used.length cap, .int .i64 t, .agg need.c] w (RetBelow (.bool (Qt.within c.nodes used t need)) w)
  borrows : ∀ (c : Cmd) vn vh (used : List V3) ao cap bb oo (t : Int) w, c.wide → Cf.check c = 0 → CmAt c vn vh w → Sl V3.c 26 3 w ao cap bb oo used → (∀ v ∈ used, v.wide) → used.length ≤ 100 → In64 t →
    Calls Try.prog 18 #[.agg (c.f vn vh), .slice ao used.length cap, .int .i64 t] w (RetBelow (.bool (Qt.borrows c.nodes used t)) w)
  nominal : ∀ (c : Cmd) vn vh (n : Int) w, c.wide → Cf.check c = 0 → CmAt c vn vh w → In64 n → Calls Try.prog 24 #[.agg (c.f vn vh), .int .i64 n] w (RetBelow (.agg (Qt.nominal c.nodes n).c) w)
  kept : ∀ (c : Cmd) vn vh (used : List V3) ao cap bb oo (n t : Int) w, c.wide → Cf.check c = 0 → CmAt c vn vh w → Sl V3.c 26 3 w ao cap bb oo used → (∀ v ∈ used, v.wide) → used.length ≤ 100 → In64 n → In64 t →
    Calls Try.prog 25 #[.agg (c.f vn vh), .slice ao used.length cap, .int .i64 n, .int .i64 t] w (RetBelow (.agg (Qt.kept c.nodes used n t).c) w)

theorem Sl.nil {α : Type} (enc : α → Array Value) (T : TypeId) (k : Nat) (w : World) : Sl enc T k w none 0 0 0 ([] : List α) :=
  ⟨by simp, fun h => by simp at h, fun i h => by simp at h, fun i x h => by simp at h⟩

namespace Qt
/-- The chapter's example. -/
def two : Cmd := ⟨0, [⟨-1, 1, ⟨0, 0, 0⟩, ⟨0, 0, 0⟩, ⟨0, 0, 0⟩⟩, ⟨0, 1, ⟨4, 4, 4⟩, ⟨4, 4, 4⟩, ⟨4, 4, 4⟩⟩, ⟨0, 1, ⟨4, 4, 4⟩, ⟨4, 4, 4⟩, ⟨1, 1, 1⟩⟩], [⟨0, 0, 0, ⟨8, 8, 8⟩⟩], 1, 0, Cm.zG, 0⟩
theorem check_two' : Cf.check two = 0 := by decide
theorem t1 : may two.nodes [] 2 ⟨8, 8, 8⟩ = true := by decide
theorem t2 : may two.nodes [] 1 ⟨5, 5, 5⟩ = true := by decide
theorem t3 : may two.nodes [] 1 ⟨6, 0, 0⟩ = false := by decide
theorem t4 : may two.nodes [] 0 ⟨0, 0, 0⟩ = false := by decide
theorem t5 : nominal two.nodes 0 = ⟨8, 8, 8⟩ := by decide
theorem t6 : kept two.nodes [] 0 1 = ⟨3, 3, 3⟩ := by decide
theorem t7 : within two.nodes [] 1 ⟨4, 4, 4⟩ = true := by decide
theorem t8 : borrows two.nodes [⟨0, 0, 0⟩, ⟨5, 0, 0⟩] 1 = true := by decide
theorem in_small {x : Int} (h0 : -100 ≤ x) (h1 : x ≤ 100) : In64 x := by unfold In64; omega
theorem v_small {x y z : Int} (h0 : 0 ≤ x ∧ x ≤ 100) (h1 : 0 ≤ y ∧ y ≤ 100) (h2 : 0 ≤ z ∧ z ≤ 100) : V3.wide ⟨x, y, z⟩ := by
  refine ⟨?_, ?_, ?_⟩
  · show In64 x; exact in_small (by omega) (by omega)
  · show In64 y; exact in_small (by omega) (by omega)
  · show In64 z; exact in_small (by omega) (by omega)
theorem two_wide : two.wide := by
  refine ⟨in64_zero, fun n h => ?_, fun n h => ?_, in_small (by decide) (by decide), in64_zero, gg_zero, in64_zero⟩
  · simp only [two, List.mem_cons, List.not_mem_nil, or_false] at h
    rcases h with rfl | rfl | rfl
    · exact ⟨in_small (by decide) (by decide), in_small (by decide) (by decide), v_small (by decide) (by decide) (by decide), v_small (by decide) (by decide) (by decide), v_small (by decide) (by decide) (by decide)⟩
    · exact ⟨in_small (by decide) (by decide), in_small (by decide) (by decide), v_small (by decide) (by decide) (by decide), v_small (by decide) (by decide) (by decide), v_small (by decide) (by decide) (by decide)⟩
    · exact ⟨in_small (by decide) (by decide), in_small (by decide) (by decide), v_small (by decide) (by decide) (by decide), v_small (by decide) (by decide) (by decide), v_small (by decide) (by decide) (by decide)⟩
  · simp only [two, List.mem_cons, List.not_mem_nil, or_false] at h
    subst h
    exact ⟨in_small (by decide) (by decide), in_small (by decide) (by decide), in_small (by decide) (by decide), v_small (by decide) (by decide) (by decide)⟩
end Qt

/-- A configuration that may be, few amounts. -/
theorem qMay_any (c : Cmd) (vn vh : Value) (used : List V3) (ao : Option Addr) (cap : Nat) (w : World) (h : CmAt c vn vh w) (hs : used.length ≤ 9223372036854775807) :
    Calls Try.prog 6 #[.agg (c.f vn vh), .slice ao used.length cap] w (RetBelow (.bool (decide (Cf.check c = 0) && decide (used.length ≤ 100))) w) := by
  have hk := fun w2 (g : Below w.heap.size w w2) => rCheck9At (h.kept g)
  obtain ⟨an, ln, cn, ah, lh, ch, rfl, rfl⟩ := h.slices
  obtain ⟨ck, hck⟩ : ∃ v, Cf.check c = v := ⟨_, rfl⟩
  simp only [hck] at hk ⊢
  obtain ⟨ul, hul⟩ : ∃ v, used.length = v := ⟨_, rfl⟩
  rw [hul] at hs ⊢
  obtain ⟨zu, hzu⟩ : ∃ z : Int, (ul : Int) = z := ⟨_, rfl⟩
  have e : Hid ((decide (ck = 0) && decide (ul ≤ 100)) = (decide (ck = 0) && decide (zu ≤ 100))) := Lib.hid (by rw [Bool.eq_iff_iff]; simp only [Bool.and_eq_true, decide_eq_true_eq]; omega)
  clear h hck hul
  obtain ⟨kind, nodes, hosts, half, age, g, n⟩ := c
  simp only [Cmd.f] at *
  have HK := Lib.hid hk
  have g0 := Lib.hid (show Below w.heap.size w (w.alloc (.cells #[.slice an ln cn, .slice ah lh ch, .int .i64 half, .int .i64 age] 25)) from (Below.refl _ _).alloc (Nat.le_refl _) _)
  clear hk
  go_enter Try.func6, Try.ntmps6
  go_wp2_with fail
  refine (HK.out _ g0.out).mono ?_
  rintro er w1 ⟨rfl, b1⟩
  have G1 := Lib.hid (below_trans g0.out b1)
  clear b1
  by_cases h0 : ck = 0
  · subst h0
    by_cases hu : zu ≤ 100
    · go_wp2_with fail
      go_ret
      exact ⟨by rw [e.out, decide_eq_true (by omega : zu ≤ 100)]; rfl, G1.out⟩
    · go_wp2_with fail
      go_ret
      exact ⟨by rw [e.out, decide_eq_false (by omega : ¬ zu ≤ 100)]; rfl, G1.out⟩
  · have h0' : (ck == 0) = false := by simpa using h0
    go_wp2_with fail
    go_ret
    exact ⟨by rw [e.out]; simp [h0], G1.out⟩

set_option maxHeartbeats 1000000 in
set_option maxRecDepth 8000 in
theorem two_any (w : World) : Calls Try.prog 23 #[] w fun e w' => ∃ vn vh, e = .returned (.agg #[vn, vh, .int .i64 1, .int .i64 0]) ∧ CmAt Qt.two vn vh w' ∧ Below w.heap.size w w' := by
  go_enter Try.func23, Try.ntmps23
  go_wp2_with fail
  have z1 : ((w.alloc (.cells #[.slice (some ⟨w.heap.size + 1 + 1, 0, none⟩) 3 3, .slice (some ⟨w.heap.size + 1 + 1 + 1, 0, none⟩) 1 1, .int .i64 1, .int .i64 0] 25)).alloc (.cells #[.int .i64 4, .int .i64 4, .int .i64 4] 29)).heap.size = w.heap.size + 1 + 1 := by rw [World.size_alloc, World.size_alloc]
  have z2 : ((((w.alloc (.cells #[.slice (some ⟨w.heap.size + 1 + 1, 0, none⟩) 3 3, .slice (some ⟨w.heap.size + 1 + 1 + 1, 0, none⟩) 1 1, .int .i64 1, .int .i64 0] 25)).alloc (.cells #[.int .i64 4, .int .i64 4, .int .i64 4] 29))).alloc (.cells #[.int .i64 (-1), .int .i64 1, .int .i64 0, .int .i64 0, .int .i64 0, .int .i64 0, .int .i64 0, .int .i64 0, .int .i64 0, .int .i64 0, .int .i64 0, .int .i64 0, .int .i64 1, .int .i64 4, .int .i64 4, .int .i64 4, .int .i64 4, .int .i64 4, .int .i64 4, .int .i64 4, .int .i64 4, .int .i64 4, .int .i64 0, .int .i64 1, .int .i64 4, .int .i64 4, .int .i64 4, .int .i64 4, .int .i64 4, .int .i64 4, .int .i64 1, .int .i64 1, .int .i64 1] 42)).heap.size = w.heap.size + 1 + 1 + 1 := by rw [World.size_alloc, z1]
  have gu := two_below w (.cells #[.slice (some ⟨w.heap.size + 1 + 1, 0, none⟩) 3 3, .slice (some ⟨w.heap.size + 1 + 1 + 1, 0, none⟩) 1 1, .int .i64 1, .int .i64 0] 25) (.cells #[.int .i64 4, .int .i64 4, .int .i64 4] 29)
  have gv : Below w.heap.size w ((((w.alloc (.cells #[.slice (some ⟨w.heap.size + 1 + 1, 0, none⟩) 3 3, .slice (some ⟨w.heap.size + 1 + 1 + 1, 0, none⟩) 1 1, .int .i64 1, .int .i64 0] 25)).alloc (.cells #[.int .i64 4, .int .i64 4, .int .i64 4] 29))).alloc (.cells #[.int .i64 (-1), .int .i64 1, .int .i64 0, .int .i64 0, .int .i64 0, .int .i64 0, .int .i64 0, .int .i64 0, .int .i64 0, .int .i64 0, .int .i64 0, .int .i64 0, .int .i64 1, .int .i64 4, .int .i64 4, .int .i64 4, .int .i64 4, .int .i64 4, .int .i64 4, .int .i64 4, .int .i64 4, .int .i64 4, .int .i64 0, .int .i64 1, .int .i64 4, .int .i64 4, .int .i64 4, .int .i64 4, .int .i64 4, .int .i64 4, .int .i64 1, .int .i64 1, .int .i64 1] 42)) := gu.alloc gu.size _
  have gw : Below w.heap.size w (((((w.alloc (.cells #[.slice (some ⟨w.heap.size + 1 + 1, 0, none⟩) 3 3, .slice (some ⟨w.heap.size + 1 + 1 + 1, 0, none⟩) 1 1, .int .i64 1, .int .i64 0] 25)).alloc (.cells #[.int .i64 4, .int .i64 4, .int .i64 4] 29))).alloc (.cells #[.int .i64 (-1), .int .i64 1, .int .i64 0, .int .i64 0, .int .i64 0, .int .i64 0, .int .i64 0, .int .i64 0, .int .i64 0, .int .i64 0, .int .i64 0, .int .i64 0, .int .i64 1, .int .i64 4, .int .i64 4, .int .i64 4, .int .i64 4, .int .i64 4, .int .i64 4, .int .i64 4, .int .i64 4, .int .i64 4, .int .i64 0, .int .i64 1, .int .i64 4, .int .i64 4, .int .i64 4, .int .i64 4, .int .i64 4, .int .i64 4, .int .i64 1, .int .i64 1, .int .i64 1] 42)).alloc (.cells #[.int .i64 0, .int .i64 0, .int .i64 0, .int .i64 8, .int .i64 8, .int .i64 8] 62)) := gv.alloc gv.size _
  have r1 : Row (((((w.alloc (.cells #[.slice (some ⟨w.heap.size + 1 + 1, 0, none⟩) 3 3, .slice (some ⟨w.heap.size + 1 + 1 + 1, 0, none⟩) 1 1, .int .i64 1, .int .i64 0] 25)).alloc (.cells #[.int .i64 4, .int .i64 4, .int .i64 4] 29))).alloc (.cells #[.int .i64 (-1), .int .i64 1, .int .i64 0, .int .i64 0, .int .i64 0, .int .i64 0, .int .i64 0, .int .i64 0, .int .i64 0, .int .i64 0, .int .i64 0, .int .i64 0, .int .i64 1, .int .i64 4, .int .i64 4, .int .i64 4, .int .i64 4, .int .i64 4, .int .i64 4, .int .i64 4, .int .i64 4, .int .i64 4, .int .i64 0, .int .i64 1, .int .i64 4, .int .i64 4, .int .i64 4, .int .i64 4, .int .i64 4, .int .i64 4, .int .i64 1, .int .i64 1, .int .i64 1] 42)).alloc (.cells #[.int .i64 0, .int .i64 0, .int .i64 0, .int .i64 8, .int .i64 8, .int .i64 8] 62)) w.heap.size #[.slice (some ⟨w.heap.size + 1 + 1, 0, none⟩) 3 3, .slice (some ⟨w.heap.size + 1 + 1 + 1, 0, none⟩) 1 1, .int .i64 1, .int .i64 0] 25 := (Row.new w #[.slice (some ⟨w.heap.size + 1 + 1, 0, none⟩) 3 3, .slice (some ⟨w.heap.size + 1 + 1 + 1, 0, none⟩) 1 1, .int .i64 1, .int .i64 0] 25).under ((((Below.refl _ _).alloc (Nat.le_refl _) (.cells #[.int .i64 4, .int .i64 4, .int .i64 4] 29)).alloc (by simp) (.cells #[.int .i64 (-1), .int .i64 1, .int .i64 0, .int .i64 0, .int .i64 0, .int .i64 0, .int .i64 0, .int .i64 0, .int .i64 0, .int .i64 0, .int .i64 0, .int .i64 0, .int .i64 1, .int .i64 4, .int .i64 4, .int .i64 4, .int .i64 4, .int .i64 4, .int .i64 4, .int .i64 4, .int .i64 4, .int .i64 4, .int .i64 0, .int .i64 1, .int .i64 4, .int .i64 4, .int .i64 4, .int .i64 4, .int .i64 4, .int .i64 4, .int .i64 1, .int .i64 1, .int .i64 1] 42)).alloc (by simp) (.cells #[.int .i64 0, .int .i64 0, .int .i64 0, .int .i64 8, .int .i64 8, .int .i64 8] 62))
  have o1 := World.ownsRow_lit (e := 42) (base := 0) (size := 11) ((w.alloc (.cells #[.slice (some ⟨w.heap.size + 1 + 1, 0, none⟩) 3 3, .slice (some ⟨w.heap.size + 1 + 1 + 1, 0, none⟩) 1 1, .int .i64 1, .int .i64 0] 25)).alloc (.cells #[.int .i64 4, .int .i64 4, .int .i64 4] 29)) #[.int .i64 (-1), .int .i64 1, .int .i64 0, .int .i64 0, .int .i64 0, .int .i64 0, .int .i64 0, .int .i64 0, .int .i64 0, .int .i64 0, .int .i64 0, .int .i64 0, .int .i64 1, .int .i64 4, .int .i64 4, .int .i64 4, .int .i64 4, .int .i64 4, .int .i64 4, .int .i64 4, .int .i64 4, .int .i64 4, .int .i64 0, .int .i64 1, .int .i64 4, .int .i64 4, .int .i64 4, .int .i64 4, .int .i64 4, .int .i64 4, .int .i64 1, .int .i64 1, .int .i64 1] 3 (Nat.zero_le _) (by unfold maxLen; omega) rfl
  have o2 := World.ownsRow_lit (e := 62) (base := 0) (size := 6) ((((w.alloc (.cells #[.slice (some ⟨w.heap.size + 1 + 1, 0, none⟩) 3 3, .slice (some ⟨w.heap.size + 1 + 1 + 1, 0, none⟩) 1 1, .int .i64 1, .int .i64 0] 25)).alloc (.cells #[.int .i64 4, .int .i64 4, .int .i64 4] 29))).alloc (.cells #[.int .i64 (-1), .int .i64 1, .int .i64 0, .int .i64 0, .int .i64 0, .int .i64 0, .int .i64 0, .int .i64 0, .int .i64 0, .int .i64 0, .int .i64 0, .int .i64 0, .int .i64 1, .int .i64 4, .int .i64 4, .int .i64 4, .int .i64 4, .int .i64 4, .int .i64 4, .int .i64 4, .int .i64 4, .int .i64 4, .int .i64 0, .int .i64 1, .int .i64 4, .int .i64 4, .int .i64 4, .int .i64 4, .int .i64 4, .int .i64 4, .int .i64 1, .int .i64 1, .int .i64 1] 42)) #[.int .i64 0, .int .i64 0, .int .i64 0, .int .i64 8, .int .i64 8, .int .i64 8] 1 (Nat.zero_le _) (by unfold maxLen; omega) rfl
  have o1' := World.ownsRow.alloc o1 (.cells #[.int .i64 0, .int .i64 0, .int .i64 0, .int .i64 8, .int .i64 8, .int .i64 8] 62)
  rw [z1] at o1'
  rw [z2] at o2
  refine bodyPost_ret (results_cell_row (p := 0) (by kernel_rfl) _ _ w.heap.size _ _ _ _ rfl r1 Try.underlying25 rfl config_len) rfl ?_
  exact ⟨_, _, rfl, CmAt.of_rows (c := Qt.two) (A := 0) (B := 0) o1' o2, gw⟩

set_option maxHeartbeats 2000000 in
set_option maxRecDepth 8000 in
theorem qAwake_any (C : QuC) (w : World) : Calls Try.prog 9 #[] w (RetBelow (.bool true) w) := by
  have nv : ∀ v ∈ ([] : List V3), v.wide := fun v h => by simp at h
  have bv : ∀ v ∈ ([⟨0, 0, 0⟩, ⟨5, 0, 0⟩] : List V3), v.wide := fun v h => by
    simp only [List.mem_cons, List.not_mem_nil, or_false] at h
    rcases h with rfl | rfl
    · exact Qt.v_small (by decide) (by decide) (by decide)
    · exact Qt.v_small (by decide) (by decide) (by decide)
  have e1 := fun vn vh w h => C.may Qt.two vn vh [] none 0 0 0 2 ⟨8, 8, 8⟩ w Qt.two_wide Qt.check_two' h (Sl.nil _ _ _ _) nv (by simp) (Qt.in_small (by decide) (by decide)) (Qt.v_small (by decide) (by decide) (by decide))
  have e2 := fun vn vh w h => C.may Qt.two vn vh [] none 0 0 0 1 ⟨5, 5, 5⟩ w Qt.two_wide Qt.check_two' h (Sl.nil _ _ _ _) nv (by simp) (Qt.in_small (by decide) (by decide)) (Qt.v_small (by decide) (by decide) (by decide))
  have e3 := fun vn vh w h => C.may Qt.two vn vh [] none 0 0 0 1 ⟨6, 0, 0⟩ w Qt.two_wide Qt.check_two' h (Sl.nil _ _ _ _) nv (by simp) (Qt.in_small (by decide) (by decide)) (Qt.v_small (by decide) (by decide) (by decide))
  have e4 := fun vn vh w h => C.may Qt.two vn vh [] none 0 0 0 0 ⟨0, 0, 0⟩ w Qt.two_wide Qt.check_two' h (Sl.nil _ _ _ _) nv (by simp) (Qt.in_small (by decide) (by decide)) (Qt.v_small (by decide) (by decide) (by decide))
  have e5 := fun vn vh w h => C.nominal Qt.two vn vh 0 w Qt.two_wide Qt.check_two' h in64_zero
  have e6 := fun vn vh w h => C.kept Qt.two vn vh [] none 0 0 0 0 1 w Qt.two_wide Qt.check_two' h (Sl.nil _ _ _ _) nv (by simp) in64_zero (Qt.in_small (by decide) (by decide))
  have e7 := fun vn vh w h => C.within Qt.two vn vh [] none 0 0 0 1 ⟨4, 4, 4⟩ w Qt.two_wide Qt.check_two' h (Sl.nil _ _ _ _) nv (by simp) (Qt.in_small (by decide) (by decide)) (Qt.v_small (by decide) (by decide) (by decide))
  have e8 := fun vn vh ao cap bb oo w h hs => C.borrows Qt.two vn vh [⟨0, 0, 0⟩, ⟨5, 0, 0⟩] ao cap bb oo 1 w Qt.two_wide Qt.check_two' h hs bv (by simp) (Qt.in_small (by decide) (by decide))
  rw [Qt.t1] at e1
  rw [Qt.t2] at e2
  rw [Qt.t3] at e3
  rw [Qt.t4] at e4
  rw [Qt.t5] at e5
  rw [Qt.t6] at e6
  rw [Qt.t7] at e7
  rw [Qt.t8] at e8
  simp only [Cmd.f, V3.c, List.length_nil, List.length_cons] at e1 e2 e3 e4 e5 e6 e7 e8
  rw [show Qt.two.half = 1 from rfl, show Qt.two.age = 0 from rfl] at e1 e2 e3 e4 e5 e6 e7 e8
  have q1 := fun w => vec_eql w 8 8 8 8 8 8
  have q2 := fun w => vec_eql w 3 3 3 3 3 3
  have qg := fun w (x y : Operand) (xs ys : Array Value) => vec_guard w .eql x y xs ys
  have E1 := Lib.hid e1; have E2 := Lib.hid e2; have E3 := Lib.hid e3; have E4 := Lib.hid e4; have E5 := Lib.hid e5; have E6 := Lib.hid e6; have E7 := Lib.hid e7; have E8 := Lib.hid e8
  clear e1 e2 e3 e4 e5 e6 e7 e8 nv bv
  go_enter Try.func9, Try.ntmps9
  go_wp2_with fail
  refine (two_any _).mono ?_
  rintro er w1 ⟨vn, vh, rfl, h1, b1⟩
  obtain ⟨an, ln, cn, ah, lh, ch, rfl, rfl⟩ := h1.slices
  have g1 := (Below.refl w1.heap.size w1).alloc (Nat.le_refl _) (.cells #[.slice an ln cn, .slice ah lh ch, .int .i64 1, .int .i64 0] 25)
  have H1 := Lib.hid (h1.kept g1); have B1 := Lib.hid (below_trans b1 g1); have R1 := Lib.hid (Row.new w1 #[.slice an ln cn, .slice ah lh ch, .int .i64 1, .int .i64 0] 25)
  clear b1 h1 g1
  go_wp2_with fail
  refine (E1.out _ _ _ H1.out).mono ?_
  rintro er w2 ⟨rfl, b2⟩
  have H2 := Lib.hid (H1.out.kept b2); have B2 := Lib.hid (below_trans B1.out b2); have R2 := Lib.hid (R1.out.under b2)
  clear b2
  have d0 : w2.cell? ⟨w1.heap.size, 0, none⟩ = some (.slice an ln cn) := R2.out.at_ 0
  have d1 : w2.cell? ⟨w1.heap.size, 1, none⟩ = some (.slice ah lh ch) := R2.out.at_ 1
  have d2 : w2.cell? ⟨w1.heap.size, 2, none⟩ = some (.int .i64 1) := R2.out.at_ 2
  have d3 : w2.cell? ⟨w1.heap.size, 3, none⟩ = some (.int .i64 0) := R2.out.at_ 3
  go_wp2_with fail
  refine (E2.out _ _ _ H2.out).mono ?_
  rintro er w3 ⟨rfl, b2⟩
  have H3 := Lib.hid (H2.out.kept b2); have B3 := Lib.hid (below_trans B2.out b2); have R3 := Lib.hid (R2.out.under b2)
  clear b2 d0 d1 d2 d3
  have d0 : w3.cell? ⟨w1.heap.size, 0, none⟩ = some (.slice an ln cn) := R3.out.at_ 0
  have d1 : w3.cell? ⟨w1.heap.size, 1, none⟩ = some (.slice ah lh ch) := R3.out.at_ 1
  have d2 : w3.cell? ⟨w1.heap.size, 2, none⟩ = some (.int .i64 1) := R3.out.at_ 2
  have d3 : w3.cell? ⟨w1.heap.size, 3, none⟩ = some (.int .i64 0) := R3.out.at_ 3
  go_wp2_with fail
  refine (E3.out _ _ _ H3.out).mono ?_
  rintro er w4 ⟨rfl, b2⟩
  have H4 := Lib.hid (H3.out.kept b2); have B4 := Lib.hid (below_trans B3.out b2); have R4 := Lib.hid (R3.out.under b2)
  clear b2 d0 d1 d2 d3
  have d0 : w4.cell? ⟨w1.heap.size, 0, none⟩ = some (.slice an ln cn) := R4.out.at_ 0
  have d1 : w4.cell? ⟨w1.heap.size, 1, none⟩ = some (.slice ah lh ch) := R4.out.at_ 1
  have d2 : w4.cell? ⟨w1.heap.size, 2, none⟩ = some (.int .i64 1) := R4.out.at_ 2
  have d3 : w4.cell? ⟨w1.heap.size, 3, none⟩ = some (.int .i64 0) := R4.out.at_ 3
  go_wp2_with fail
  refine (E4.out _ _ _ H4.out).mono ?_
  rintro er w5 ⟨rfl, b2⟩
  have H5 := Lib.hid (H4.out.kept b2); have B5 := Lib.hid (below_trans B4.out b2); have R5 := Lib.hid (R4.out.under b2)
  clear b2 d0 d1 d2 d3
  have d0 : w5.cell? ⟨w1.heap.size, 0, none⟩ = some (.slice an ln cn) := R5.out.at_ 0
  have d1 : w5.cell? ⟨w1.heap.size, 1, none⟩ = some (.slice ah lh ch) := R5.out.at_ 1
  have d2 : w5.cell? ⟨w1.heap.size, 2, none⟩ = some (.int .i64 1) := R5.out.at_ 2
  have d3 : w5.cell? ⟨w1.heap.size, 3, none⟩ = some (.int .i64 0) := R5.out.at_ 3
  go_wp2_with fail
  refine (E5.out _ _ _ H5.out).mono ?_
  rintro er w6 ⟨rfl, b2⟩
  have H6 := Lib.hid (H5.out.kept b2); have B6 := Lib.hid (below_trans B5.out b2); have R6 := Lib.hid (R5.out.under b2)
  clear b2 d0 d1 d2 d3
  have d0 : w6.cell? ⟨w1.heap.size, 0, none⟩ = some (.slice an ln cn) := R6.out.at_ 0
  have d1 : w6.cell? ⟨w1.heap.size, 1, none⟩ = some (.slice ah lh ch) := R6.out.at_ 1
  have d2 : w6.cell? ⟨w1.heap.size, 2, none⟩ = some (.int .i64 1) := R6.out.at_ 2
  have d3 : w6.cell? ⟨w1.heap.size, 3, none⟩ = some (.int .i64 0) := R6.out.at_ 3
  go_wp2_with fail
  refine (E6.out _ _ _ H6.out).mono ?_
  rintro er w7 ⟨rfl, b2⟩
  have H7 := Lib.hid (H6.out.kept b2); have B7 := Lib.hid (below_trans B6.out b2); have R7 := Lib.hid (R6.out.under b2)
  clear b2 d0 d1 d2 d3
  have d0 : w7.cell? ⟨w1.heap.size, 0, none⟩ = some (.slice an ln cn) := R7.out.at_ 0
  have d1 : w7.cell? ⟨w1.heap.size, 1, none⟩ = some (.slice ah lh ch) := R7.out.at_ 1
  have d2 : w7.cell? ⟨w1.heap.size, 2, none⟩ = some (.int .i64 1) := R7.out.at_ 2
  have d3 : w7.cell? ⟨w1.heap.size, 3, none⟩ = some (.int .i64 0) := R7.out.at_ 3
  go_wp2_with fail
  refine (E7.out _ _ _ H7.out).mono ?_
  rintro er w8 ⟨rfl, b2⟩
  have H8 := Lib.hid (H7.out.kept b2); have B8 := Lib.hid (below_trans B7.out b2); have R8 := Lib.hid (R7.out.under b2)
  clear b2 d0 d1 d2 d3
  have al := (Below.refl w8.heap.size w8).alloc (Nat.le_refl _) (.cells #[.int .i64 0, .int .i64 0, .int .i64 0, .int .i64 5, .int .i64 0, .int .i64 0] 29)
  have o8 := World.ownsRow_lit (e := 29) (base := 0) (size := 3) w8 #[.int .i64 0, .int .i64 0, .int .i64 0, .int .i64 5, .int .i64 0, .int .i64 0] 2 (Nat.zero_le _) (by unfold maxLen; omega) rfl
  obtain ⟨ao, cp, bb, hv, sl⟩ := own_slice V3.c 26 (k := 3) (l := [⟨0, 0, 0⟩, ⟨5, 0, 0⟩]) (fun x => rfl) o8 (fun b len cap i hi w0 => vec_idx b len cap i hi w0)
  injection hv with hv1 hv2 hv3
  have c8 := E8.out _ _ ao cp bb 0 _ (H8.out.kept al) sl
  rw [← hv1, ← hv3] at c8
  have C8 := Lib.hid c8; have B9 := Lib.hid (below_trans B8.out al)
  clear al o8 hv1 hv2 hv3 sl c8
  have d0 : w8.cell? ⟨w1.heap.size, 0, none⟩ = some (.slice an ln cn) := R8.out.at_ 0
  have d1 : w8.cell? ⟨w1.heap.size, 1, none⟩ = some (.slice ah lh ch) := R8.out.at_ 1
  have d2 : w8.cell? ⟨w1.heap.size, 2, none⟩ = some (.int .i64 1) := R8.out.at_ 2
  have d3 : w8.cell? ⟨w1.heap.size, 3, none⟩ = some (.int .i64 0) := R8.out.at_ 3
  go_wp2_with fail
  refine C8.out.mono ?_
  rintro er w9 ⟨rfl, b9⟩
  have B10 := Lib.hid (below_trans B9.out b9)
  clear b9 d0 d1 d2 d3
  go_wp2_with fail
  go_ret
  exact ⟨rfl, B10.out⟩

end Go.Proofs.Ytkakgjmajplgmaa
