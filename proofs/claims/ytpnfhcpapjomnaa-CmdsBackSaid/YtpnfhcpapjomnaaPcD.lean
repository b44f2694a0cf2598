/- The landed commands: own, Check. -/
import Derived.Test.YtpnfhcpapjomnaaPcB
import Derived.Test.YtpnfhcpapjomnaaPcC
namespace Go.Proofs.Ytpnfhcpapjomnaa
open Go.RowKit
set_option linter.unusedVariables false

/-- A command with the fields of its kind alone; whether there is such a kind. -/
def Cm.own (c : Cmd) : Cmd × Bool :=
  if c.kind = 1 then (⟨1, c.nodes, c.hosts, c.half, c.age, Cm.zG, 0⟩, true)
  else if c.kind = 2 then (⟨2, [], [], 0, 0, c.gang, 0⟩, true)
  else if c.kind = 3 then (⟨3, [], [], 0, 0, Cm.zG, c.n⟩, true)
  else if c.kind = 4 then (⟨4, [], [], 0, 0, Cm.zG, c.n⟩, true)
  else if c.kind = 5 then (⟨5, [], [], 0, 0, Cm.zG, c.n⟩, true)
  else if c.kind = 6 then (⟨6, [], [], 0, 0, Cm.zG, 0⟩, true)
  else (Cm.zero, false)

theorem fine_own (c : Cmd) : Cm.fine c = ((Cm.own c).2 && decide (c = (Cm.own c).1) && Cm.okC c && Cm.okG c.gang && Cm.ok c.n) := by
  have hG : Cm.okG Cm.zG = true := by decide
  have h0 : Cm.ok 0 = true := by decide
  obtain ⟨kind, nodes, hosts, half, age, gang, n⟩ := c
  rw [Bool.eq_iff_iff]
  by_cases k1 : kind = 1
  · subst k1
    simp only [Cm.fine, Cm.own, if_pos, Bool.true_and, Bool.and_eq_true, decide_eq_true_eq, Cmd.eq_iff, Cm.bare, true_and]
    constructor
    · rintro ⟨⟨h1, h2⟩, h3⟩; subst h1; subst h2; exact ⟨⟨⟨⟨rfl, rfl⟩, h3⟩, hG⟩, h0⟩
    · rintro ⟨⟨⟨⟨h1, h2⟩, h3⟩, _⟩, _⟩; exact ⟨⟨h1, h2⟩, h3⟩
  by_cases k2 : kind = 2
  · subst k2
    simp only [Cm.fine, Cm.own, if_neg k1, if_pos, Bool.true_and, Bool.and_eq_true, decide_eq_true_eq, Cmd.eq_iff, Cm.empty_iff, true_and]
    constructor
    · rintro ⟨⟨⟨h1, h2, h3, h4⟩, h5⟩, h6⟩; subst h1; subst h2; subst h3; subst h4; subst h5; exact ⟨⟨⟨⟨rfl, rfl, rfl, rfl, rfl⟩, rfl⟩, h6⟩, h0⟩
    · rintro ⟨⟨⟨⟨h1, h2, h3, h4, h5⟩, _⟩, h6⟩, _⟩; exact ⟨⟨⟨h1, h2, h3, h4⟩, h5⟩, h6⟩
  have hn : ∀ k : Int, kind = k → (k = 3 ∨ k = 4 ∨ k = 5) → Cm.own ⟨kind, nodes, hosts, half, age, gang, n⟩ = (⟨k, [], [], 0, 0, Cm.zG, n⟩, true) := fun k e hk => by
    subst e
    unfold Cm.own
    simp only [if_neg k1, if_neg k2]
    rcases hk with h | h | h <;> subst h <;> simp
  by_cases k3 : kind = 3 ∨ kind = 4 ∨ kind = 5
  · rw [hn kind rfl k3]
    simp only [Cm.fine, if_neg k1, if_neg k2, if_pos k3, Bool.true_and, Bool.and_eq_true, decide_eq_true_eq, Cmd.eq_iff, Cm.empty_iff, Cm.bare, true_and, and_true]
    constructor
    · rintro ⟨⟨⟨h1, h2, h3, h4⟩, h5⟩, h6⟩; subst h1; subst h2; subst h3; subst h4; subst h5; exact ⟨⟨⟨⟨rfl, rfl, rfl, rfl, rfl⟩, rfl⟩, hG⟩, h6⟩
    · rintro ⟨⟨⟨⟨h1, h2, h3, h4, h5⟩, _⟩, _⟩, h6⟩; exact ⟨⟨⟨h1, h2, h3, h4⟩, h5⟩, h6⟩
  have n3 : ¬ kind = 3 := fun e => k3 (.inl e)
  have n4 : ¬ kind = 4 := fun e => k3 (.inr (.inl e))
  have n5 : ¬ kind = 5 := fun e => k3 (.inr (.inr e))
  by_cases k6 : kind = 6
  · subst k6
    simp only [Cm.fine, Cm.own, if_neg k1, if_neg k2, if_neg k3, if_neg n3, if_neg n4, if_neg n5, if_pos, Bool.true_and, Bool.and_eq_true, decide_eq_true_eq, Cmd.eq_iff, Cm.empty_iff, Cm.bare, true_and]
    constructor
    · rintro ⟨⟨⟨h1, h2, h3, h4⟩, h5⟩, h6⟩; subst h1; subst h2; subst h3; subst h4; subst h5; subst h6; exact ⟨⟨⟨⟨rfl, rfl, rfl, rfl, rfl, rfl⟩, by decide⟩, hG⟩, h0⟩
    · rintro ⟨⟨⟨⟨h1, h2, h3, h4, h5, h6⟩, _⟩, _⟩, _⟩; exact ⟨⟨⟨h1, h2, h3, h4⟩, h5⟩, h6⟩
  · simp only [Cm.fine, Cm.own, if_neg k1, if_neg k2, if_neg k3, if_neg n3, if_neg n4, if_neg n5, if_neg k6, Bool.false_and, Bool.false_eq_true]

set_option maxHeartbeats 1000000 in
set_option maxRecDepth 8000 in
theorem own_any {c : Cmd} {vn vh : Value} {w : World} (h : CmAt c vn vh w) : Calls Try.prog 22 #[.agg (c.c vn vh)] w fun e w' => ∃ vn' vh' : Value,
    e = .returned (.tuple #[.agg ((Cm.own c).1.c vn' vh'), .bool (Cm.own c).2]) ∧ CmAt (Cm.own c).1 vn' vh' w' ∧ Below w.heap.size w w' := by
  obtain ⟨an, ln, cn, ah, lh, ch, rfl, rfl⟩ := h.slices
  obtain ⟨kind, nodes, hosts, half, age, ⟨id, ten, pods, ⟨x, y, z⟩, run, lev, pre⟩, n⟩ := c
  have hown : Cm.own ⟨kind, nodes, hosts, half, age, ⟨id, ten, pods, ⟨x, y, z⟩, run, lev, pre⟩, n⟩ = if kind = 1 then (⟨1, nodes, hosts, half, age, Cm.zG, 0⟩, true)
    else if kind = 2 then (⟨2, [], [], 0, 0, ⟨id, ten, pods, ⟨x, y, z⟩, run, lev, pre⟩, 0⟩, true)
    else if kind = 3 then (⟨3, [], [], 0, 0, Cm.zG, n⟩, true)
    else if kind = 4 then (⟨4, [], [], 0, 0, Cm.zG, n⟩, true)
    else if kind = 5 then (⟨5, [], [], 0, 0, Cm.zG, n⟩, true)
    else if kind = 6 then (⟨6, [], [], 0, 0, Cm.zG, 0⟩, true) else (Cm.zero, false) := rfl
  obtain ⟨R, hR⟩ : ∃ R, Cm.own ⟨kind, nodes, hosts, half, age, ⟨id, ten, pods, ⟨x, y, z⟩, run, lev, pre⟩, n⟩ = R := ⟨_, rfl⟩
  rw [hR] at hown ⊢
  have g2 := two_below w (.cells #[.int .i64 kind, .slice an ln cn, .slice ah lh ch, .int .i64 half, .int .i64 age, .int .i64 id, .int .i64 ten, .int .i64 pods, .int .i64 x, .int .i64 y, .int .i64 z, .int .i64 run, .int .i64 lev, .int .i64 pre, .int .i64 n] 31) (.cells #[.int .i64 0, .slice none 0 0, .slice none 0 0, .int .i64 0, .int .i64 0, .int .i64 0, .int .i64 0, .int .i64 0, .int .i64 0, .int .i64 0, .int .i64 0, .int .i64 0, .int .i64 0, .int .i64 0, .int .i64 0] 31)
  have r2 : Row ((w.alloc (.cells #[.int .i64 kind, .slice an ln cn, .slice ah lh ch, .int .i64 half, .int .i64 age, .int .i64 id, .int .i64 ten, .int .i64 pods, .int .i64 x, .int .i64 y, .int .i64 z, .int .i64 run, .int .i64 lev, .int .i64 pre, .int .i64 n] 31)).alloc (.cells #[.int .i64 0, .slice none 0 0, .slice none 0 0, .int .i64 0, .int .i64 0, .int .i64 0, .int .i64 0, .int .i64 0, .int .i64 0, .int .i64 0, .int .i64 0, .int .i64 0, .int .i64 0, .int .i64 0, .int .i64 0] 31)) (w.heap.size + 1) #[.int .i64 0, .slice none 0 0, .slice none 0 0, .int .i64 0, .int .i64 0, .int .i64 0, .int .i64 0, .int .i64 0, .int .i64 0, .int .i64 0, .int .i64 0, .int .i64 0, .int .i64 0, .int .i64 0, .int .i64 0] 31 := by
    have := Row.new (w.alloc (.cells #[.int .i64 kind, .slice an ln cn, .slice ah lh ch, .int .i64 half, .int .i64 age, .int .i64 id, .int .i64 ten, .int .i64 pods, .int .i64 x, .int .i64 y, .int .i64 z, .int .i64 run, .int .i64 lev, .int .i64 pre, .int .i64 n] 31)) #[.int .i64 0, .slice none 0 0, .slice none 0 0, .int .i64 0, .int .i64 0, .int .i64 0, .int .i64 0, .int .i64 0, .int .i64 0, .int .i64 0, .int .i64 0, .int .i64 0, .int .i64 0, .int .i64 0, .int .i64 0] 31
    rwa [World.size_alloc] at this
  have HOWN := Lib.hid hown; have G2 := Lib.hid g2; have RES := Lib.hid r2; have HA := Lib.hid h
  clear hown hR g2 r2 h
  simp only [Cmd.c]
  go_enter Try.func22, Try.ntmps22
  by_cases k1 : kind = 1
  · subst k1
    have hr := HOWN.out
    rw [if_pos rfl] at hr
    subst hr
    go_wp2_with (first | (refine wpList_store_row rfl 31 _ _ rfl (w.heap.size + 1) #[.int .i64 1, .slice an ln cn, .slice ah lh ch, .int .i64 half, .int .i64 age, .int .i64 0, .int .i64 0, .int .i64 0, .int .i64 0, .int .i64 0, .int .i64 0, .int .i64 0, .int .i64 0, .int .i64 0, .int .i64 0] rfl rfl _ _ RES.out command_len rfl (command_one (⟨1, nodes, hosts, half, age, Cm.zG, 0⟩ : Cmd) _ _ _ _ _ _) ?_) | fail)
    refine bodyPost_ret (results_cell_tmp (p := 2) (u := 3) (by kernel_rfl) _ _ (w.heap.size + 1) _ _ _ _ rfl (RES.out.setRow #[.int .i64 1, .slice an ln cn, .slice ah lh ch, .int .i64 half, .int .i64 age, .int .i64 0, .int .i64 0, .int .i64 0, .int .i64 0, .int .i64 0, .int .i64 0, .int .i64 0, .int .i64 0, .int .i64 0, .int .i64 0]) Try.underlying31 rfl command_len) rfl ?_
    exact ⟨.slice an ln cn, .slice ah lh ch, rfl, (HA.out.kept (below_row G2.out (Nat.le_succ _) _)), below_row G2.out (Nat.le_succ _) _⟩
  by_cases k2 : kind = 2
  · subst k2
    have hr := HOWN.out
    rw [if_neg k1, if_pos rfl] at hr
    subst hr
    go_wp2_with (first | (refine wpList_store_row rfl 31 _ _ rfl (w.heap.size + 1) #[.int .i64 2, .slice none 0 0, .slice none 0 0, .int .i64 0, .int .i64 0, .int .i64 id, .int .i64 ten, .int .i64 pods, .int .i64 x, .int .i64 y, .int .i64 z, .int .i64 run, .int .i64 lev, .int .i64 pre, .int .i64 0] rfl rfl _ _ RES.out command_len rfl (command_one (⟨2, [], [], 0, 0, ⟨id, ten, pods, ⟨x, y, z⟩, run, lev, pre⟩, 0⟩ : Cmd) none none 0 0 0 0) ?_) | fail)
    refine bodyPost_ret (results_cell_tmp (p := 2) (u := 3) (by kernel_rfl) _ _ (w.heap.size + 1) _ _ _ _ rfl (RES.out.setRow #[.int .i64 2, .slice none 0 0, .slice none 0 0, .int .i64 0, .int .i64 0, .int .i64 id, .int .i64 ten, .int .i64 pods, .int .i64 x, .int .i64 y, .int .i64 z, .int .i64 run, .int .i64 lev, .int .i64 pre, .int .i64 0]) Try.underlying31 rfl command_len) rfl ?_
    exact ⟨.slice none 0 0, .slice none 0 0, rfl, CmAt.none _ _ rfl rfl, below_row G2.out (Nat.le_succ _) _⟩
  by_cases k3 : kind = 3
  · subst k3
    have hr := HOWN.out
    rw [if_neg k1, if_neg k2, if_pos rfl] at hr
    subst hr
    go_wp2_with (first | (refine wpList_store_row rfl 31 _ _ rfl (w.heap.size + 1) #[.int .i64 3, .slice none 0 0, .slice none 0 0, .int .i64 0, .int .i64 0, .int .i64 0, .int .i64 0, .int .i64 0, .int .i64 0, .int .i64 0, .int .i64 0, .int .i64 0, .int .i64 0, .int .i64 0, .int .i64 n] rfl rfl _ _ RES.out command_len rfl (command_one (⟨3, [], [], 0, 0, Cm.zG, n⟩ : Cmd) none none 0 0 0 0) ?_) | fail)
    refine bodyPost_ret (results_cell_tmp (p := 2) (u := 3) (by kernel_rfl) _ _ (w.heap.size + 1) _ _ _ _ rfl (RES.out.setRow #[.int .i64 3, .slice none 0 0, .slice none 0 0, .int .i64 0, .int .i64 0, .int .i64 0, .int .i64 0, .int .i64 0, .int .i64 0, .int .i64 0, .int .i64 0, .int .i64 0, .int .i64 0, .int .i64 0, .int .i64 n]) Try.underlying31 rfl command_len) rfl ?_
    exact ⟨.slice none 0 0, .slice none 0 0, rfl, CmAt.none _ _ rfl rfl, below_row G2.out (Nat.le_succ _) _⟩
  by_cases k4 : kind = 4
  · subst k4
    have hr := HOWN.out
    rw [if_neg k1, if_neg k2, if_neg k3, if_pos rfl] at hr
    subst hr
    go_wp2_with (first | (refine wpList_store_row rfl 31 _ _ rfl (w.heap.size + 1) #[.int .i64 4, .slice none 0 0, .slice none 0 0, .int .i64 0, .int .i64 0, .int .i64 0, .int .i64 0, .int .i64 0, .int .i64 0, .int .i64 0, .int .i64 0, .int .i64 0, .int .i64 0, .int .i64 0, .int .i64 n] rfl rfl _ _ RES.out command_len rfl (command_one (⟨4, [], [], 0, 0, Cm.zG, n⟩ : Cmd) none none 0 0 0 0) ?_) | fail)
    refine bodyPost_ret (results_cell_tmp (p := 2) (u := 3) (by kernel_rfl) _ _ (w.heap.size + 1) _ _ _ _ rfl (RES.out.setRow #[.int .i64 4, .slice none 0 0, .slice none 0 0, .int .i64 0, .int .i64 0, .int .i64 0, .int .i64 0, .int .i64 0, .int .i64 0, .int .i64 0, .int .i64 0, .int .i64 0, .int .i64 0, .int .i64 0, .int .i64 n]) Try.underlying31 rfl command_len) rfl ?_
    exact ⟨.slice none 0 0, .slice none 0 0, rfl, CmAt.none _ _ rfl rfl, below_row G2.out (Nat.le_succ _) _⟩
  by_cases k5 : kind = 5
  · subst k5
    have hr := HOWN.out
    rw [if_neg k1, if_neg k2, if_neg k3, if_neg k4, if_pos rfl] at hr
    subst hr
    go_wp2_with (first | (refine wpList_store_row rfl 31 _ _ rfl (w.heap.size + 1) #[.int .i64 5, .slice none 0 0, .slice none 0 0, .int .i64 0, .int .i64 0, .int .i64 0, .int .i64 0, .int .i64 0, .int .i64 0, .int .i64 0, .int .i64 0, .int .i64 0, .int .i64 0, .int .i64 0, .int .i64 n] rfl rfl _ _ RES.out command_len rfl (command_one (⟨5, [], [], 0, 0, Cm.zG, n⟩ : Cmd) none none 0 0 0 0) ?_) | fail)
    refine bodyPost_ret (results_cell_tmp (p := 2) (u := 3) (by kernel_rfl) _ _ (w.heap.size + 1) _ _ _ _ rfl (RES.out.setRow #[.int .i64 5, .slice none 0 0, .slice none 0 0, .int .i64 0, .int .i64 0, .int .i64 0, .int .i64 0, .int .i64 0, .int .i64 0, .int .i64 0, .int .i64 0, .int .i64 0, .int .i64 0, .int .i64 0, .int .i64 n]) Try.underlying31 rfl command_len) rfl ?_
    exact ⟨.slice none 0 0, .slice none 0 0, rfl, CmAt.none _ _ rfl rfl, below_row G2.out (Nat.le_succ _) _⟩
  by_cases k6 : kind = 6
  · subst k6
    have hr := HOWN.out
    rw [if_neg k1, if_neg k2, if_neg k3, if_neg k4, if_neg k5, if_pos rfl] at hr
    subst hr
    go_wp2_with (first | (refine wpList_store_row rfl 31 _ _ rfl (w.heap.size + 1) #[.int .i64 6, .slice none 0 0, .slice none 0 0, .int .i64 0, .int .i64 0, .int .i64 0, .int .i64 0, .int .i64 0, .int .i64 0, .int .i64 0, .int .i64 0, .int .i64 0, .int .i64 0, .int .i64 0, .int .i64 0] rfl rfl _ _ RES.out command_len rfl (command_one (⟨6, [], [], 0, 0, Cm.zG, 0⟩ : Cmd) none none 0 0 0 0) ?_) | fail)
    refine bodyPost_ret (results_cell_tmp (p := 2) (u := 3) (by kernel_rfl) _ _ (w.heap.size + 1) _ _ _ _ rfl (RES.out.setRow #[.int .i64 6, .slice none 0 0, .slice none 0 0, .int .i64 0, .int .i64 0, .int .i64 0, .int .i64 0, .int .i64 0, .int .i64 0, .int .i64 0, .int .i64 0, .int .i64 0, .int .i64 0, .int .i64 0, .int .i64 0]) Try.underlying31 rfl command_len) rfl ?_
    exact ⟨.slice none 0 0, .slice none 0 0, rfl, CmAt.none _ _ rfl rfl, below_row G2.out (Nat.le_succ _) _⟩
  have hr := HOWN.out
  rw [if_neg k1, if_neg k2, if_neg k3, if_neg k4, if_neg k5, if_neg k6] at hr
  subst hr
  have k1' : (kind == 1) = false := by simpa using k1
  have k2' : (kind == 2) = false := by simpa using k2
  have k3' : (kind == 3) = false := by simpa using k3
  have k4' : (kind == 4) = false := by simpa using k4
  have k5' : (kind == 5) = false := by simpa using k5
  have k6' : (kind == 6) = false := by simpa using k6
  go_wp2_with (first | (refine wpList_store_row rfl 31 _ _ rfl (w.heap.size + 1) #[.int .i64 0, .slice none 0 0, .slice none 0 0, .int .i64 0, .int .i64 0, .int .i64 0, .int .i64 0, .int .i64 0, .int .i64 0, .int .i64 0, .int .i64 0, .int .i64 0, .int .i64 0, .int .i64 0, .int .i64 0] rfl rfl _ _ RES.out command_len rfl (command_one Cm.zero none none 0 0 0 0) ?_) | fail)
  refine bodyPost_ret (results_cell_tmp (p := 2) (u := 3) (by kernel_rfl) _ _ (w.heap.size + 1) _ _ _ _ rfl (RES.out.setRow #[.int .i64 0, .slice none 0 0, .slice none 0 0, .int .i64 0, .int .i64 0, .int .i64 0, .int .i64 0, .int .i64 0, .int .i64 0, .int .i64 0, .int .i64 0, .int .i64 0, .int .i64 0, .int .i64 0, .int .i64 0]) Try.underlying31 rfl command_len) rfl ?_
  exact ⟨.slice none 0 0, .slice none 0 0, rfl, CmAt.none _ _ rfl rfl, below_row G2.out (Nat.le_succ _) _⟩

set_option maxHeartbeats 2000000 in
set_option maxRecDepth 8000 in
theorem cCheckAt {c : Cmd} {vn vh : Value} {w : World} (h : CmAt c vn vh w) : Calls Try.prog 12 #[.agg (c.c vn vh)] w (RetBelow (.int .i64 (Cm.check c)) w) := by
  have ho := fun w2 (g : Below w.heap.size w w2) => own_any (h.kept g)
  have hs := fun w2 vn' vh' (g : Below w.heap.size w w2) (h' : CmAt (Cm.own c).1 vn' vh' w2) => cSameAt (h.kept g) h'
  have hmc : ∀ w2 (g : Below w.heap.size w w2), Calls Try.prog 23 #[.agg #[vn, vh, .int .i64 c.half, .int .i64 c.age]] w2 (RetBelow (.bool (Cm.okC c)) w2) := fun w2 g => by
    obtain ⟨an, cn, nb, no, ah, ch, hb, hbo, rfl, rfl, s1, s2⟩ := h
    exact mayBeConfig_any c an ah cn ch nb no hb hbo w2 (s1.kept g) (s2.kept g)
  have hmg := fun w => mayBeGang_any c.gang w
  have hfine := fine_own c
  have hlen : vn = vn ∧ (∃ an cn, vn = .slice an c.nodes.length cn) ∧ (∃ ah ch, vh = .slice ah c.hosts.length ch) ∧ c.nodes.length ≤ 9223372036854775807 ∧ c.hosts.length ≤ 9223372036854775807 := by
    obtain ⟨an, cn, nb, no, ah, ch, hb, ho, rfl, rfl, s1, s2⟩ := h
    exact ⟨rfl, ⟨an, cn, rfl⟩, ⟨ah, ch, rfl⟩, s1.small, s2.small⟩
  obtain ⟨-, ⟨an, cn, rfl⟩, ⟨ah, ch, rfl⟩, n63, h63⟩ := hlen
  clear h
  obtain ⟨⟨P, known⟩, hP⟩ : ∃ r, Cm.own c = r := ⟨_, rfl⟩
  rw [hP] at ho hs hfine
  clear hP
  simp only at ho hs hfine
  have hno : ∀ {f}, Cm.fine c = f → f = false → Cm.check c = 1 := fun h e => check_no (h.trans e)
  have hyes : ∀ {f}, Cm.fine c = f → f = true → Cm.check c = if 12 < c.nodes.length ∨ 24 < c.hosts.length then 8 else 0 := fun h e => check_yes (h.trans e)
  obtain ⟨C, hC⟩ : ∃ C, Cm.check c = C := ⟨_, rfl⟩
  obtain ⟨F, hF⟩ : ∃ F, Cm.fine c = F := ⟨_, rfl⟩
  obtain ⟨S, hS⟩ : ∃ F, decide (c = P) = F := ⟨_, rfl⟩
  obtain ⟨OC, hOC⟩ : ∃ F, Cm.okC c = F := ⟨_, rfl⟩
  obtain ⟨OG, hOG⟩ : ∃ F, Cm.okG c.gang = F := ⟨_, rfl⟩
  rw [hC, hF] at hno hyes
  rw [hF, hS, hOC, hOG] at hfine
  rw [hS] at hs
  rw [hOC] at hmc
  rw [hOG] at hmg
  rw [hC]
  clear hC hF hS hOC hOG
  obtain ⟨nl, hnl⟩ : ∃ n, c.nodes.length = n := ⟨_, rfl⟩
  obtain ⟨hl, hhl⟩ : ∃ n, c.hosts.length = n := ⟨_, rfl⟩
  rw [hnl] at n63 hyes
  rw [hhl] at h63 hyes
  rw [hnl] at ho hs hmc ⊢
  rw [hhl] at ho hs hmc ⊢
  clear hnl hhl
  obtain ⟨zn, hzn⟩ : ∃ z : Int, (nl : Int) = z := ⟨_, rfl⟩
  obtain ⟨zh, hzh⟩ : ∃ z : Int, (hl : Int) = z := ⟨_, rfl⟩
  have hy1 : F = true → (12 < zn → C = 8) ∧ (¬ 12 < zn → 24 < zh → C = 8) ∧ (¬ 12 < zn → ¬ 24 < zh → C = 0) := fun hf => by
    have e := hyes rfl hf
    refine ⟨fun q => ?_, fun q1 q2 => ?_, fun q1 q2 => ?_⟩
    · rw [e, if_pos (by omega)]
    · rw [e, if_pos (by omega)]
    · rw [e, if_neg (by omega)]
  obtain ⟨kind, nodes, hosts, half, age, ⟨id, ten, pods, ⟨x, y, z⟩, run, lev, pre⟩, n⟩ := c
  obtain ⟨kind', nodes', hosts', half', age', ⟨id', ten', pods', ⟨x', y', z'⟩, run', lev', pre'⟩, n'⟩ := P
  simp only [Cmd.c, Gg.c] at ho hs hmc hmg hfine ⊢
  obtain ⟨ON, hON⟩ : ∃ F, Cm.ok n = F := ⟨_, rfl⟩
  have hok := fun w m e => mayBe1 n w m e
  rw [hON] at hfine hok
  clear hON hyes
  have g0 : Below w.heap.size w (w.alloc (.cells #[.int .i64 kind, .slice an nl cn, .slice ah hl ch, .int .i64 half, .int .i64 age, .int .i64 id, .int .i64 ten, .int .i64 pods, .int .i64 x, .int .i64 y, .int .i64 z, .int .i64 run, .int .i64 lev, .int .i64 pre, .int .i64 n] 31)) := (Below.refl _ _).alloc (Nat.le_refl _) _
  have h0 := Holds.new w #[.int .i64 kind, .slice an nl cn, .slice ah hl ch, .int .i64 half, .int .i64 age, .int .i64 id, .int .i64 ten, .int .i64 pods, .int .i64 x, .int .i64 y, .int .i64 z, .int .i64 run, .int .i64 lev, .int .i64 pre, .int .i64 n] 31
  have z0 : w.heap.size < (w.alloc (.cells #[.int .i64 kind, .slice an nl cn, .slice ah hl ch, .int .i64 half, .int .i64 age, .int .i64 id, .int .i64 ten, .int .i64 pods, .int .i64 x, .int .i64 y, .int .i64 z, .int .i64 run, .int .i64 lev, .int .i64 pre, .int .i64 n] 31)).heap.size := by simp
  have HO := Lib.hid ho; have HS := Lib.hid hs; have HMC := Lib.hid hmc; have HMG := Lib.hid hmg; have HF := Lib.hid hfine; have HNO := Lib.hid (fun e => hno rfl e); have HY := Lib.hid hy1; have HOK := Lib.hid hok
  have G0 := Lib.hid g0; have H0 := Lib.hid h0; have Z0 := Lib.hid z0
  clear ho hs hmc hmg hfine hno hy1 hok g0 h0 z0
  go_enter Try.func12, Try.ntmps12
  go_wp2_with fail
  refine (HO.out _ G0.out).mono ?_
  rintro er w1 ⟨vn', vh', rfl, hat, b1⟩
  obtain ⟨an', ln', cn', ah', lh', ch', rfl, rfl⟩ := hat.slices
  have g2 : Below w.heap.size w (w1.alloc (.cells #[.int .i64 kind', .slice an' ln' cn', .slice ah' lh' ch', .int .i64 half', .int .i64 age', .int .i64 id', .int .i64 ten', .int .i64 pods', .int .i64 x', .int .i64 y', .int .i64 z', .int .i64 run', .int .i64 lev', .int .i64 pre', .int .i64 n'] 31)) := (below_trans G0.out b1).alloc (Nat.le_trans G0.out.size b1.size) _
  have o1 : Holds (w1.alloc (.cells #[.int .i64 kind', .slice an' ln' cn', .slice ah' lh' ch', .int .i64 half', .int .i64 age', .int .i64 id', .int .i64 ten', .int .i64 pods', .int .i64 x', .int .i64 y', .int .i64 z', .int .i64 run', .int .i64 lev', .int .i64 pre', .int .i64 n'] 31)) w.heap.size #[.int .i64 kind, .slice an nl cn, .slice ah hl ch, .int .i64 half, .int .i64 age, .int .i64 id, .int .i64 ten, .int .i64 pods, .int .i64 x, .int .i64 y, .int .i64 z, .int .i64 run, .int .i64 lev, .int .i64 pre, .int .i64 n] := (H0.out.kept Z0.out b1).kept (Nat.lt_of_lt_of_le Z0.out b1.size) ((Below.refl _ _).alloc (Nat.le_refl _) _)
  have o2 : Holds (w1.alloc (.cells #[.int .i64 kind', .slice an' ln' cn', .slice ah' lh' ch', .int .i64 half', .int .i64 age', .int .i64 id', .int .i64 ten', .int .i64 pods', .int .i64 x', .int .i64 y', .int .i64 z', .int .i64 run', .int .i64 lev', .int .i64 pre', .int .i64 n'] 31)) w1.heap.size #[.int .i64 kind', .slice an' ln' cn', .slice ah' lh' ch', .int .i64 half', .int .i64 age', .int .i64 id', .int .i64 ten', .int .i64 pods', .int .i64 x', .int .i64 y', .int .i64 z', .int .i64 run', .int .i64 lev', .int .i64 pre', .int .i64 n'] := Holds.new w1 #[.int .i64 kind', .slice an' ln' cn', .slice ah' lh' ch', .int .i64 half', .int .i64 age', .int .i64 id', .int .i64 ten', .int .i64 pods', .int .i64 x', .int .i64 y', .int .i64 z', .int .i64 run', .int .i64 lev', .int .i64 pre', .int .i64 n'] 31
  have z2 : w.heap.size < (w1.alloc (.cells #[.int .i64 kind', .slice an' ln' cn', .slice ah' lh' ch', .int .i64 half', .int .i64 age', .int .i64 id', .int .i64 ten', .int .i64 pods', .int .i64 x', .int .i64 y', .int .i64 z', .int .i64 run', .int .i64 lev', .int .i64 pre', .int .i64 n'] 31)).heap.size := by rw [World.size_alloc]; have := b1.size; have := Z0.out; omega
  have at2 := hat.kept ((Below.refl _ _).alloc (Nat.le_refl w1.heap.size) (.cells #[.int .i64 kind', .slice an' ln' cn', .slice ah' lh' ch', .int .i64 half', .int .i64 age', .int .i64 id', .int .i64 ten', .int .i64 pods', .int .i64 x', .int .i64 y', .int .i64 z', .int .i64 run', .int .i64 lev', .int .i64 pre', .int .i64 n'] 31))
  have G2 := Lib.hid g2; have O1 := Lib.hid o1; have O2 := Lib.hid o2; have Z2 := Lib.hid z2; have AT2 := Lib.hid at2
  clear hat b1 g2 o1 o2 z2 at2
  cases known
  · have hc := HNO.out (HF.out.trans (by simp : _ = false))
    subst hc
    go_wp2_with fail
    go_ret
    exact ⟨rfl, G2.out⟩
  have f0 : (w1.alloc (.cells #[.int .i64 kind', .slice an' ln' cn', .slice ah' lh' ch', .int .i64 half', .int .i64 age', .int .i64 id', .int .i64 ten', .int .i64 pods', .int .i64 x', .int .i64 y', .int .i64 z', .int .i64 run', .int .i64 lev', .int .i64 pre', .int .i64 n'] 31)).cell? ⟨w.heap.size, 0, none⟩ = some (.int .i64 kind) := O1.out 0 _ rfl
  have f1 : (w1.alloc (.cells #[.int .i64 kind', .slice an' ln' cn', .slice ah' lh' ch', .int .i64 half', .int .i64 age', .int .i64 id', .int .i64 ten', .int .i64 pods', .int .i64 x', .int .i64 y', .int .i64 z', .int .i64 run', .int .i64 lev', .int .i64 pre', .int .i64 n'] 31)).cell? ⟨w.heap.size, 1, none⟩ = some (.slice an nl cn) := O1.out 1 _ rfl
  have f2 : (w1.alloc (.cells #[.int .i64 kind', .slice an' ln' cn', .slice ah' lh' ch', .int .i64 half', .int .i64 age', .int .i64 id', .int .i64 ten', .int .i64 pods', .int .i64 x', .int .i64 y', .int .i64 z', .int .i64 run', .int .i64 lev', .int .i64 pre', .int .i64 n'] 31)).cell? ⟨w.heap.size, 2, none⟩ = some (.slice ah hl ch) := O1.out 2 _ rfl
  have f3 : (w1.alloc (.cells #[.int .i64 kind', .slice an' ln' cn', .slice ah' lh' ch', .int .i64 half', .int .i64 age', .int .i64 id', .int .i64 ten', .int .i64 pods', .int .i64 x', .int .i64 y', .int .i64 z', .int .i64 run', .int .i64 lev', .int .i64 pre', .int .i64 n'] 31)).cell? ⟨w.heap.size, 3, none⟩ = some (.int .i64 half) := O1.out 3 _ rfl
  have f4 : (w1.alloc (.cells #[.int .i64 kind', .slice an' ln' cn', .slice ah' lh' ch', .int .i64 half', .int .i64 age', .int .i64 id', .int .i64 ten', .int .i64 pods', .int .i64 x', .int .i64 y', .int .i64 z', .int .i64 run', .int .i64 lev', .int .i64 pre', .int .i64 n'] 31)).cell? ⟨w.heap.size, 4, none⟩ = some (.int .i64 age) := O1.out 4 _ rfl
  have f5 : (w1.alloc (.cells #[.int .i64 kind', .slice an' ln' cn', .slice ah' lh' ch', .int .i64 half', .int .i64 age', .int .i64 id', .int .i64 ten', .int .i64 pods', .int .i64 x', .int .i64 y', .int .i64 z', .int .i64 run', .int .i64 lev', .int .i64 pre', .int .i64 n'] 31)).cell? ⟨w.heap.size, 5, none⟩ = some (.int .i64 id) := O1.out 5 _ rfl
  have f6 : (w1.alloc (.cells #[.int .i64 kind', .slice an' ln' cn', .slice ah' lh' ch', .int .i64 half', .int .i64 age', .int .i64 id', .int .i64 ten', .int .i64 pods', .int .i64 x', .int .i64 y', .int .i64 z', .int .i64 run', .int .i64 lev', .int .i64 pre', .int .i64 n'] 31)).cell? ⟨w.heap.size, 6, none⟩ = some (.int .i64 ten) := O1.out 6 _ rfl
  have f7 : (w1.alloc (.cells #[.int .i64 kind', .slice an' ln' cn', .slice ah' lh' ch', .int .i64 half', .int .i64 age', .int .i64 id', .int .i64 ten', .int .i64 pods', .int .i64 x', .int .i64 y', .int .i64 z', .int .i64 run', .int .i64 lev', .int .i64 pre', .int .i64 n'] 31)).cell? ⟨w.heap.size, 7, none⟩ = some (.int .i64 pods) := O1.out 7 _ rfl
  have f8 : (w1.alloc (.cells #[.int .i64 kind', .slice an' ln' cn', .slice ah' lh' ch', .int .i64 half', .int .i64 age', .int .i64 id', .int .i64 ten', .int .i64 pods', .int .i64 x', .int .i64 y', .int .i64 z', .int .i64 run', .int .i64 lev', .int .i64 pre', .int .i64 n'] 31)).cell? ⟨w.heap.size, 8, none⟩ = some (.int .i64 x) := O1.out 8 _ rfl
  have f9 : (w1.alloc (.cells #[.int .i64 kind', .slice an' ln' cn', .slice ah' lh' ch', .int .i64 half', .int .i64 age', .int .i64 id', .int .i64 ten', .int .i64 pods', .int .i64 x', .int .i64 y', .int .i64 z', .int .i64 run', .int .i64 lev', .int .i64 pre', .int .i64 n'] 31)).cell? ⟨w.heap.size, 9, none⟩ = some (.int .i64 y) := O1.out 9 _ rfl
  have f10 : (w1.alloc (.cells #[.int .i64 kind', .slice an' ln' cn', .slice ah' lh' ch', .int .i64 half', .int .i64 age', .int .i64 id', .int .i64 ten', .int .i64 pods', .int .i64 x', .int .i64 y', .int .i64 z', .int .i64 run', .int .i64 lev', .int .i64 pre', .int .i64 n'] 31)).cell? ⟨w.heap.size, 10, none⟩ = some (.int .i64 z) := O1.out 10 _ rfl
  have f11 : (w1.alloc (.cells #[.int .i64 kind', .slice an' ln' cn', .slice ah' lh' ch', .int .i64 half', .int .i64 age', .int .i64 id', .int .i64 ten', .int .i64 pods', .int .i64 x', .int .i64 y', .int .i64 z', .int .i64 run', .int .i64 lev', .int .i64 pre', .int .i64 n'] 31)).cell? ⟨w.heap.size, 11, none⟩ = some (.int .i64 run) := O1.out 11 _ rfl
  have f12 : (w1.alloc (.cells #[.int .i64 kind', .slice an' ln' cn', .slice ah' lh' ch', .int .i64 half', .int .i64 age', .int .i64 id', .int .i64 ten', .int .i64 pods', .int .i64 x', .int .i64 y', .int .i64 z', .int .i64 run', .int .i64 lev', .int .i64 pre', .int .i64 n'] 31)).cell? ⟨w.heap.size, 12, none⟩ = some (.int .i64 lev) := O1.out 12 _ rfl
  have f13 : (w1.alloc (.cells #[.int .i64 kind', .slice an' ln' cn', .slice ah' lh' ch', .int .i64 half', .int .i64 age', .int .i64 id', .int .i64 ten', .int .i64 pods', .int .i64 x', .int .i64 y', .int .i64 z', .int .i64 run', .int .i64 lev', .int .i64 pre', .int .i64 n'] 31)).cell? ⟨w.heap.size, 13, none⟩ = some (.int .i64 pre) := O1.out 13 _ rfl
  have f14 : (w1.alloc (.cells #[.int .i64 kind', .slice an' ln' cn', .slice ah' lh' ch', .int .i64 half', .int .i64 age', .int .i64 id', .int .i64 ten', .int .i64 pods', .int .i64 x', .int .i64 y', .int .i64 z', .int .i64 run', .int .i64 lev', .int .i64 pre', .int .i64 n'] 31)).cell? ⟨w.heap.size, 14, none⟩ = some (.int .i64 n) := O1.out 14 _ rfl
  go_wp2_with fail
  refine (HS.out _ _ _ G2.out AT2.out).mono ?_
  rintro er w3 ⟨rfl, b3⟩
  have o3 := O1.out.kept Z2.out b3
  have z3 := Nat.lt_of_lt_of_le Z2.out b3.size
  have G3 := Lib.hid (below_trans G2.out b3); have O3 := Lib.hid o3; have Z3 := Lib.hid z3
  clear b3 o3 z3 f0 f1 f2 f3 f4 f5 f6 f7 f8 f9 f10 f11 f12 f13 f14
  cases S
  · have hc := HNO.out (HF.out.trans (by simp : _ = false))
    subst hc
    go_wp2_with fail
    go_ret
    exact ⟨rfl, G3.out⟩
  have f1 : w3.cell? ⟨w.heap.size, 1, none⟩ = some (.slice an nl cn) := O3.out 1 _ rfl
  have f2 : w3.cell? ⟨w.heap.size, 2, none⟩ = some (.slice ah hl ch) := O3.out 2 _ rfl
  have f3 : w3.cell? ⟨w.heap.size, 3, none⟩ = some (.int .i64 half) := O3.out 3 _ rfl
  have f4 : w3.cell? ⟨w.heap.size, 4, none⟩ = some (.int .i64 age) := O3.out 4 _ rfl
  go_wp2_with fail
  refine (HMC.out _ G3.out).mono ?_
  rintro er w4 ⟨rfl, b4⟩
  have o4 := O3.out.kept Z3.out b4
  have z4 := Nat.lt_of_lt_of_le Z3.out b4.size
  have G4 := Lib.hid (below_trans G3.out b4); have O4 := Lib.hid o4; have Z4 := Lib.hid z4
  clear b4 o4 z4 f1 f2 f3 f4
  cases OC
  · have hc := HNO.out (HF.out.trans (by simp : _ = false))
    subst hc
    go_wp2_with fail
    go_ret
    exact ⟨rfl, G4.out⟩
  have f5 : w4.cell? ⟨w.heap.size, 5, none⟩ = some (.int .i64 id) := O4.out 5 _ rfl
  have f6 : w4.cell? ⟨w.heap.size, 6, none⟩ = some (.int .i64 ten) := O4.out 6 _ rfl
  have f7 : w4.cell? ⟨w.heap.size, 7, none⟩ = some (.int .i64 pods) := O4.out 7 _ rfl
  have f8 : w4.cell? ⟨w.heap.size, 8, none⟩ = some (.int .i64 x) := O4.out 8 _ rfl
  have f9 : w4.cell? ⟨w.heap.size, 9, none⟩ = some (.int .i64 y) := O4.out 9 _ rfl
  have f10 : w4.cell? ⟨w.heap.size, 10, none⟩ = some (.int .i64 z) := O4.out 10 _ rfl
  have f11 : w4.cell? ⟨w.heap.size, 11, none⟩ = some (.int .i64 run) := O4.out 11 _ rfl
  have f12 : w4.cell? ⟨w.heap.size, 12, none⟩ = some (.int .i64 lev) := O4.out 12 _ rfl
  have f13 : w4.cell? ⟨w.heap.size, 13, none⟩ = some (.int .i64 pre) := O4.out 13 _ rfl
  go_wp2_with fail
  refine (HMG.out _).mono ?_
  rintro er w5 ⟨rfl, b5⟩
  have o5 := O4.out.kept Z4.out b5
  have z5 := Nat.lt_of_lt_of_le Z4.out b5.size
  have G5 := Lib.hid (below_trans G4.out b5); have O5 := Lib.hid o5; have Z5 := Lib.hid z5
  clear b5 o5 z5 f5 f6 f7 f8 f9 f10 f11 f12 f13
  cases OG
  · have hc := HNO.out (HF.out.trans (by simp : _ = false))
    subst hc
    go_wp2_with fail
    go_ret
    exact ⟨rfl, G5.out⟩
  have d14 : w5.cell? ⟨w.heap.size, 14, none⟩ = some (.int .i64 n) := O5.out 14 _ rfl
  go_wp2_with fail
  refine (HOK.out _ _ (by simp)).mono ?_
  rintro er w6 ⟨rfl, hw6⟩
  have b6 : Below w5.heap.size w5 w6 := hw6 ▸ (Below.refl _ _).alloc (Nat.le_refl _) _
  have o6 := O5.out.kept Z5.out b6
  have G6 := Lib.hid (below_trans G5.out b6); have O6 := Lib.hid o6
  clear b6 o6 hw6 d14
  cases ON
  · have hc := HNO.out (HF.out.trans (by simp : _ = false))
    subst hc
    go_wp2_with fail
    go_ret
    exact ⟨rfl, G6.out⟩
  have hy := HY.out (HF.out.trans (by simp : _ = true))
  obtain ⟨y1, y2, y3⟩ := hy
  have e1 : w6.cell? ⟨w.heap.size, 1, none⟩ = some (.slice an nl cn) := O6.out 1 _ rfl
  have e2 : w6.cell? ⟨w.heap.size, 2, none⟩ = some (.slice ah hl ch) := O6.out 2 _ rfl
  by_cases q1 : 12 < zn
  · have hc := y1 q1
    subst hc
    clear y1 y2 y3
    go_wp2_with fail
    go_ret
    exact ⟨rfl, G6.out⟩
  by_cases q2 : 24 < zh
  · have hc := y2 (by omega) q2
    subst hc
    clear y1 y2 y3
    go_wp2_with fail
    go_ret
    exact ⟨rfl, G6.out⟩
  · have hc := y3 (by omega) (by omega)
    subst hc
    clear y1 y2 y3
    go_wp2_with fail
    go_ret
    exact ⟨rfl, G6.out⟩

end Go.Proofs.Ytpnfhcpapjomnaa
