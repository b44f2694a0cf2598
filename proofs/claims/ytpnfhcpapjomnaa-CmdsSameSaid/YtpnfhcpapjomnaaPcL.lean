/- The landed commands: Decode, what it recovers; the whole. -/
import Derived.Test.YtpnfhcpapjomnaaPcK
import Derived.Test.YtpnfhcpapjomnaaPcG
import Derived.Test.YtpnfhcpapjomnaaCmdL
import Derived.Recover
namespace Go.Proofs.Ytpnfhcpapjomnaa
open Go.RowKit
set_option linter.unusedVariables false

theorem results_cell_cell {P : Program} {fn : Func} {p u : Tmp} {ty ty2 : TypeId} (h : fn.results = #[.cell p ty, .cell u ty2]) (tmps : Array Value) (w : World) (g : Nat) (t : TypeId) (cs : Array Value) (fr : Nat × Nat) (d : TypeDesc) (g2 : Nat) (v : Value)
    (hp : tmps.getD p undef = .pointer (some ⟨g, 0, none⟩)) (hg : w.heap[g]? = some (.cells cs t fr))
    (hu : P.underlying ty = some d) (hd : (match d with | .struct _ | .array _ _ => true | _ => false) = true) (hi : (P.info? ty).map (·.size) = some cs.size)
    (hq : tmps.getD u undef = .pointer (some ⟨g2, 0, none⟩)) (hl : (loadVar ty2 ⟨g2, 0, none⟩).run P w = .ok v w) :
    (results fn tmps).run P w = .ok (.tuple #[.agg cs, v]) w := by
  have hp' : tmps[p]?.getD undef = .pointer (some ⟨g, 0, none⟩) := by simpa using hp
  have hq' : tmps[u]?.getD undef = .pointer (some ⟨g2, 0, none⟩) := by simpa using hq
  simp [results, h, hp', hq', asAddr, run_loadVar_row w g t ty cs fr d hg hu hd hi, hl, Result.andThen]

theorem errno_load (w : World) (g : Nat) (x : Int) (h : w.cell? ⟨g, 0, none⟩ = some (.int .i64 x)) : (loadVar 34 ⟨g, 0, none⟩).run Try.prog w = .ok (.int .i64 x) w := by
  have ha : (isAgg 34).run Try.prog w = .ok false w := by kernel_rfl
  unfold loadVar
  simp [ha, go_sem, h]

set_option maxHeartbeats 1000000 in
set_option maxRecDepth 8000 in
theorem catch_yes (g : Nat) (cs : Array Value) (x : Int) (u : TypeId) (pv : Value) (older : List PanicEntry) (w : World) (hr : Row w g cs 31) (hs : cs.size = 15) (h1 : Row w (g + 1) #[.int .i64 x] 34) :
    CallsD Try.prog 30 #[.pointer (some ⟨g, 0, none⟩), .pointer (some ⟨g + 1, 0, none⟩)] (.panicking ({ v := .iface u pv, recovered := false } :: older)) w fun e u' w' =>
      e = .returned (.tuple #[]) ∧ u' = .panicking ({ v := .iface u pv, recovered := true } :: older) ∧ w' = (w.setRow g #[.int .i64 0, .slice none 0 0, .slice none 0 0, .int .i64 0, .int .i64 0, .int .i64 0, .int .i64 0, .int .i64 0, .int .i64 0, .int .i64 0, .int .i64 0, .int .i64 0, .int .i64 0, .int .i64 0, .int .i64 0]).setCell ⟨g + 1, 0, none⟩ (.int .i64 10) := by
  have r2 : Row (w.setRow g #[.int .i64 0, .slice none 0 0, .slice none 0 0, .int .i64 0, .int .i64 0, .int .i64 0, .int .i64 0, .int .i64 0, .int .i64 0, .int .i64 0, .int .i64 0, .int .i64 0, .int .i64 0, .int .i64 0, .int .i64 0]) (g + 1) #[.int .i64 x] 34 := (setRow_other w g (g + 1) _ (by omega)).trans h1
  have hc : (w.setRow g #[.int .i64 0, .slice none 0 0, .slice none 0 0, .int .i64 0, .int .i64 0, .int .i64 0, .int .i64 0, .int .i64 0, .int .i64 0, .int .i64 0, .int .i64 0, .int .i64 0, .int .i64 0, .int .i64 0, .int .i64 0]).cell? ⟨g + 1, 0, none⟩ = some (.int .i64 x) := r2.at_ 0
  have hf := r2.soft 0
  have HR := Lib.hid hr
  clear r2 h1 hr
  refine callsD_of_wpS Try.func30 rfl fun c₀ cs₀ hu => ?_
  apply wpS_seq
  apply wpS_region
  simp [wpOpsS, go_sem, recoverD, hu, Try.ntmps30, Exit.thenS]
  refine wpS_cond (t := true) (by simp [Act.eval, Array.replicate]) ?_
  simp only [if_true]
  refine wpS_of_wp ?_
  go_wp2_with (first | (refine wpList_store_row rfl 31 _ _ rfl g #[.int .i64 0, .slice none 0 0, .slice none 0 0, .int .i64 0, .int .i64 0, .int .i64 0, .int .i64 0, .int .i64 0, .int .i64 0, .int .i64 0, .int .i64 0, .int .i64 0, .int .i64 0, .int .i64 0, .int .i64 0] rfl rfl _ _ HR.out command_len hs (command_one Cm.zero none none 0 0 0 0) ?_) | fail)
  exact ⟨rfl, _, rfl, _, results_none rfl _ _ _, rfl, rfl, rfl⟩

theorem catch_idle (g : Nat) (w : World) :
    CallsD Try.prog 30 #[.pointer (some ⟨g, 0, none⟩), .pointer (some ⟨g + 1, 0, none⟩)] .returning w fun e u' w' => e = .returned (.tuple #[]) ∧ u' = .returning ∧ w' = w := by
  refine callsD_of_wpS Try.func30 rfl fun c₀ cs hu => ?_
  apply wpS_seq
  apply wpS_region
  simp [wpOpsS, go_sem, recoverD, hu, Try.ntmps30, Exit.thenS]
  refine wpS_cond (t := false) (by simp [Act.eval, Array.replicate]) ?_
  simp only [Bool.false_eq_true, if_false]
  refine wpS_of_wp (wp_skip ?_)
  cases c₀
  simp_all [bodyPostS, results, Try.results30]

set_option maxHeartbeats 2000000 in
set_option maxRecDepth 8000 in
theorem cDecode_any (s : ByteArray) (w : World) : Calls Try.prog 14 #[.string s] w fun e w' => ∃ vn vh : Value,
    e = .returned (.tuple #[.agg ((Cm.decode s).1.c vn vh), .int .i64 (Cm.decode s).2]) ∧ CmAt (Cm.decode s).1 vn vh w' ∧ Below w.heap.size w w' := by
  have hdn := fun h => @Cm.decode_land_no s h
  have hdy := fun h1 h2 h3 => @Cm.decode_land_yes s h1 h2 h3
  obtain ⟨⟨D0, D1⟩, hD⟩ : ∃ d, Cm.decode s = d := ⟨_, rfl⟩
  rw [hD] at hdn hdy ⊢
  have cc := fun w h => commandOf_any (w.heap.size - 1) s w h
  have cc' := fun b w h => commandOf_any b s w h
  obtain ⟨⟨c, q⟩, hq⟩ : ∃ r, Cm.parseP s = r := ⟨_, rfl⟩
  rw [hq] at hdn hdy cc'
  simp only at hdn hdy
  have HDN := Lib.hid hdn; have HDY := Lib.hid hdy; have CC := Lib.hid cc'
  clear hD hdn hdy cc cc' hq
  have hmf : ∀ (fn : Fn) (first cap : Array Value) (w : World), (Instr.makeFunc fn first cap).run Try.prog w = .ok (.func fn first cap) w := fun _ _ _ _ => rfl
  have s1 : ((w.alloc (.cells #[.int .i64 0, .slice none 0 0, .slice none 0 0, .int .i64 0, .int .i64 0, .int .i64 0, .int .i64 0, .int .i64 0, .int .i64 0, .int .i64 0, .int .i64 0, .int .i64 0, .int .i64 0, .int .i64 0, .int .i64 0] 31)).alloc (.cells #[.int .i64 0] 34)).heap.size = w.heap.size + 2 := by rw [World.size_alloc, World.size_alloc]
  have g2 : Below w.heap.size w ((((w.alloc (.cells #[.int .i64 0, .slice none 0 0, .slice none 0 0, .int .i64 0, .int .i64 0, .int .i64 0, .int .i64 0, .int .i64 0, .int .i64 0, .int .i64 0, .int .i64 0, .int .i64 0, .int .i64 0, .int .i64 0, .int .i64 0] 31)).alloc (.cells #[.int .i64 0] 34))).alloc (.cells #[.string s] 57)) := (two_below _ _ _).alloc (by rw [s1]; omega) _
  have p2 : RAt (w.heap.size + 2) s ((((w.alloc (.cells #[.int .i64 0, .slice none 0 0, .slice none 0 0, .int .i64 0, .int .i64 0, .int .i64 0, .int .i64 0, .int .i64 0, .int .i64 0, .int .i64 0, .int .i64 0, .int .i64 0, .int .i64 0, .int .i64 0, .int .i64 0] 31)).alloc (.cells #[.int .i64 0] 34))).alloc (.cells #[.string s] 57)) := by
    have := Row.new ((w.alloc (.cells #[.int .i64 0, .slice none 0 0, .slice none 0 0, .int .i64 0, .int .i64 0, .int .i64 0, .int .i64 0, .int .i64 0, .int .i64 0, .int .i64 0, .int .i64 0, .int .i64 0, .int .i64 0, .int .i64 0, .int .i64 0] 31)).alloc (.cells #[.int .i64 0] 34)) #[.string s] 57
    rw [s1] at this
    exact this
  have u2 : Below ((w.alloc (.cells #[.int .i64 0, .slice none 0 0, .slice none 0 0, .int .i64 0, .int .i64 0, .int .i64 0, .int .i64 0, .int .i64 0, .int .i64 0, .int .i64 0, .int .i64 0, .int .i64 0, .int .i64 0, .int .i64 0, .int .i64 0] 31)).alloc (.cells #[.int .i64 0] 34)).heap.size ((w.alloc (.cells #[.int .i64 0, .slice none 0 0, .slice none 0 0, .int .i64 0, .int .i64 0, .int .i64 0, .int .i64 0, .int .i64 0, .int .i64 0, .int .i64 0, .int .i64 0, .int .i64 0, .int .i64 0, .int .i64 0, .int .i64 0] 31)).alloc (.cells #[.int .i64 0] 34)) ((((w.alloc (.cells #[.int .i64 0, .slice none 0 0, .slice none 0 0, .int .i64 0, .int .i64 0, .int .i64 0, .int .i64 0, .int .i64 0, .int .i64 0, .int .i64 0, .int .i64 0, .int .i64 0, .int .i64 0, .int .i64 0, .int .i64 0] 31)).alloc (.cells #[.int .i64 0] 34))).alloc (.cells #[.string s] 57)) := (Below.refl _ _).alloc (Nat.le_refl _) _
  have r2 : Row ((((w.alloc (.cells #[.int .i64 0, .slice none 0 0, .slice none 0 0, .int .i64 0, .int .i64 0, .int .i64 0, .int .i64 0, .int .i64 0, .int .i64 0, .int .i64 0, .int .i64 0, .int .i64 0, .int .i64 0, .int .i64 0, .int .i64 0] 31)).alloc (.cells #[.int .i64 0] 34))).alloc (.cells #[.string s] 57)) w.heap.size #[.int .i64 0, .slice none 0 0, .slice none 0 0, .int .i64 0, .int .i64 0, .int .i64 0, .int .i64 0, .int .i64 0, .int .i64 0, .int .i64 0, .int .i64 0, .int .i64 0, .int .i64 0, .int .i64 0, .int .i64 0] 31 := ((Row.new w #[.int .i64 0, .slice none 0 0, .slice none 0 0, .int .i64 0, .int .i64 0, .int .i64 0, .int .i64 0, .int .i64 0, .int .i64 0, .int .i64 0, .int .i64 0, .int .i64 0, .int .i64 0, .int .i64 0, .int .i64 0] 31).under ((Below.refl _ _).alloc (Nat.le_refl _) _)).under u2
  have e2 : Row ((((w.alloc (.cells #[.int .i64 0, .slice none 0 0, .slice none 0 0, .int .i64 0, .int .i64 0, .int .i64 0, .int .i64 0, .int .i64 0, .int .i64 0, .int .i64 0, .int .i64 0, .int .i64 0, .int .i64 0, .int .i64 0, .int .i64 0] 31)).alloc (.cells #[.int .i64 0] 34))).alloc (.cells #[.string s] 57)) (w.heap.size + 1) #[.int .i64 0] 34 := by
    have h := Row.new (w.alloc (.cells #[.int .i64 0, .slice none 0 0, .slice none 0 0, .int .i64 0, .int .i64 0, .int .i64 0, .int .i64 0, .int .i64 0, .int .i64 0, .int .i64 0, .int .i64 0, .int .i64 0, .int .i64 0, .int .i64 0, .int .i64 0] 31)) #[.int .i64 0] 34
    rw [World.size_alloc] at h
    exact h.under u2
  have s2 : ((((w.alloc (.cells #[.int .i64 0, .slice none 0 0, .slice none 0 0, .int .i64 0, .int .i64 0, .int .i64 0, .int .i64 0, .int .i64 0, .int .i64 0, .int .i64 0, .int .i64 0, .int .i64 0, .int .i64 0, .int .i64 0, .int .i64 0] 31)).alloc (.cells #[.int .i64 0] 34))).alloc (.cells #[.string s] 57)).heap.size = w.heap.size + 3 := by rw [World.size_alloc, s1]
  have G2 := Lib.hid g2; have P2 := Lib.hid p2; have R2 := Lib.hid r2; have E2 := Lib.hid e2; have S2 := Lib.hid s2
  clear s1 g2 p2 u2 r2 e2 s2
  go_enter_defers Try.func14, Try.ntmps14
  go_wp2_with fail
  refine (CC.out _ _ P2.out).mono ?_
  rintro er w3 (⟨hq, vn, vh, rfl, h3, b3, n3, m3⟩ | ⟨hq, rfl, b3⟩)
  case inr =>
    have r3 := Lib.hid (R2.out.keep b3 (by omega)); have e3 := Lib.hid (E2.out.keep b3 (by omega))
    have g3 := Lib.hid (G2.out.trans (b3.below (B := w.heap.size) (by omega) (by rw [S2.out]; omega)))
    obtain ⟨rfl, rfl⟩ := Prod.mk.inj (HDN.out (.inl hq))
    clear b3 hq
    go_wp2_with fail
    refine leaves_cons (f := 30) (args := #[.pointer (some ⟨w.heap.size, 0, none⟩), .pointer (some ⟨w.heap.size + 1, 0, none⟩)]) (by simp) (by simp [go_sem]) ?_
    refine (catch_yes w.heap.size #[.int .i64 0, .slice none 0 0, .slice none 0 0, .int .i64 0, .int .i64 0, .int .i64 0, .int .i64 0, .int .i64 0, .int .i64 0, .int .i64 0, .int .i64 0, .int .i64 0, .int .i64 0, .int .i64 0, .int .i64 0] 0 _ _ _ w3 r3.out rfl e3.out).mono ?_
    rintro e u' w'' ⟨rfl, rfl, rfl⟩
    have k8 : But (w.heap.size + 1) (w3.setRow w.heap.size #[.int .i64 0, .slice none 0 0, .slice none 0 0, .int .i64 0, .int .i64 0, .int .i64 0, .int .i64 0, .int .i64 0, .int .i64 0, .int .i64 0, .int .i64 0, .int .i64 0, .int .i64 0, .int .i64 0, .int .i64 0]) ((w3.setRow w.heap.size #[.int .i64 0, .slice none 0 0, .slice none 0 0, .int .i64 0, .int .i64 0, .int .i64 0, .int .i64 0, .int .i64 0, .int .i64 0, .int .i64 0, .int .i64 0, .int .i64 0, .int .i64 0, .int .i64 0, .int .i64 0]).setCell ⟨w.heap.size + 1, 0, none⟩ (.int .i64 10)) := (But.refl _ _).setCell (p := ⟨w.heap.size + 1, 0, none⟩) (.inr rfl) _
    have r8 := (r3.out.setRow #[.int .i64 0, .slice none 0 0, .slice none 0 0, .int .i64 0, .int .i64 0, .int .i64 0, .int .i64 0, .int .i64 0, .int .i64 0, .int .i64 0, .int .i64 0, .int .i64 0, .int .i64 0, .int .i64 0, .int .i64 0]).keep k8 (by omega)
    have e8 : Row _ (w.heap.size + 1) #[.int .i64 10] 34 := Row.set ((setRow_other w3 w.heap.size (w.heap.size + 1) #[.int .i64 0, .slice none 0 0, .slice none 0 0, .int .i64 0, .int .i64 0, .int .i64 0, .int .i64 0, .int .i64 0, .int .i64 0, .int .i64 0, .int .i64 0, .int .i64 0, .int .i64 0, .int .i64 0, .int .i64 0] (by omega)).trans e3.out) 0 (.int .i64 10)
    simp only [Leaves, settle, List.dropWhile]
    refine ⟨_, results_cell_cell (p := 2) (u := 3) (by kernel_rfl) _ _ w.heap.size _ _ _ _ (w.heap.size + 1) (.int .i64 10) rfl r8 Try.underlying31 rfl command_len rfl (errno_load _ _ _ (e8.at_ 0)), ?_⟩
    exact ⟨.slice none 0 0, .slice none 0 0, rfl, CmAt.none _ _ rfl rfl, (below_row g3.out (Nat.le_refl _) _).setCell (p := ⟨w.heap.size + 1, 0, none⟩) (Nat.le_succ _) _⟩
  obtain ⟨an, nl, cn, rfl⟩ := own_form n3
  obtain ⟨ah, hl, ch, rfl⟩ := own_form m3
  have r3 := R2.out.keep b3 (by omega)
  have e3 := E2.out.keep b3 (by omega)
  have g3 := G2.out.trans (b3.below (B := w.heap.size) (by omega) (by rw [S2.out]; omega))
  rw [S2.out] at n3 m3
  obtain ⟨kind, nodes, hosts, half, age, ⟨id, ten, pods, ⟨x, y, z⟩, run, lev, pre⟩, n⟩ := c
  simp only at n3 m3
  have k4 : But w.heap.size w3 (w3.setRow w.heap.size #[.int .i64 kind, .slice an nl cn, .slice ah hl ch, .int .i64 half, .int .i64 age, .int .i64 id, .int .i64 ten, .int .i64 pods, .int .i64 x, .int .i64 y, .int .i64 z, .int .i64 run, .int .i64 lev, .int .i64 pre, .int .i64 n]) := (But.refl _ _).setRow (.inr rfl) _
  have r4 := r3.setRow #[.int .i64 kind, .slice an nl cn, .slice ah hl ch, .int .i64 half, .int .i64 age, .int .i64 id, .int .i64 ten, .int .i64 pods, .int .i64 x, .int .i64 y, .int .i64 z, .int .i64 run, .int .i64 lev, .int .i64 pre, .int .i64 n]
  have e4 := e3.keep k4 (by omega)
  have h4 : RAt (w.heap.size + 2) q.s (w3.setRow w.heap.size #[.int .i64 kind, .slice an nl cn, .slice ah hl ch, .int .i64 half, .int .i64 age, .int .i64 id, .int .i64 ten, .int .i64 pods, .int .i64 x, .int .i64 y, .int .i64 z, .int .i64 run, .int .i64 lev, .int .i64 pre, .int .i64 n]) := Row.aside h3 k4 (by omega)
  have g4 : Below w.heap.size w (w3.setRow w.heap.size #[.int .i64 kind, .slice an nl cn, .slice ah hl ch, .int .i64 half, .int .i64 age, .int .i64 id, .int .i64 ten, .int .i64 pods, .int .i64 x, .int .i64 y, .int .i64 z, .int .i64 run, .int .i64 lev, .int .i64 pre, .int .i64 n]) := below_row g3 (Nat.le_refl _) _
  have n4 := own_keep n3 k4 (own_low n3 (by omega))
  have m4 := own_keep m3 k4 (own_low m3 (by omega))
  obtain ⟨W4, hW4⟩ : ∃ V, w3.setRow w.heap.size #[.int .i64 kind, .slice an nl cn, .slice ah hl ch, .int .i64 half, .int .i64 age, .int .i64 id, .int .i64 ten, .int .i64 pods, .int .i64 x, .int .i64 y, .int .i64 z, .int .i64 run, .int .i64 lev, .int .i64 pre, .int .i64 n] = V := ⟨_, rfl⟩
  rw [hW4] at r4 e4 h4 g4 n4 m4
  have hat : CmAt ⟨kind, nodes, hosts, half, age, ⟨id, ten, pods, ⟨x, y, z⟩, run, lev, pre⟩, n⟩ (.slice an nl cn) (.slice ah hl ch) W4 := CmAt.of_rows n4 m4
  have hck := cCheckAt hat
  simp only [Cmd.c] at hck
  obtain ⟨ck, hckk⟩ : ∃ v, Cm.check ⟨kind, nodes, hosts, half, age, ⟨id, ten, pods, ⟨x, y, z⟩, run, lev, pre⟩, n⟩ = v := ⟨_, rfl⟩
  rw [hckk] at hck
  have HDN2 := Lib.hid HDN.out; have HDY2 := Lib.hid HDY.out
  rw [hckk] at HDN2 HDY2
  have R3 := Lib.hid r3; have R4 := Lib.hid r4; have E4 := Lib.hid e4; have G4 := Lib.hid g4; have HAT := Lib.hid hat; have HCK := Lib.hid hck; have HW4 := Lib.hid hW4; have Q3 := Lib.hid hq; have N4 := Lib.hid n4; have M4 := Lib.hid m4
  have c2 : W4.cell? ⟨w.heap.size + 2, 0, none⟩ = some (.string q.s) := h4.at_ 0
  obtain ⟨rest, hrest⟩ : ∃ r, q.s = r := ⟨_, rfl⟩
  rw [hrest] at c2 HDN2 HDY2
  clear r3 e3 g3 n3 m3 k4 r4 e4 h4 g4 n4 m4 hW4 hat hck hckk h3 b3 hq HDN HDY hrest
  by_cases hs : rest = ⟨#[]⟩
  case neg =>
    have hs' := ba_ne hs
    rw [show (⟨#[]⟩ : ByteArray).toList = [] by rw [ByteArray.toList_eq]] at hs'
    obtain ⟨rfl, rfl⟩ := Prod.mk.inj (HDN2.out (.inr (.inl hs)))
    go_wp2_with (first | (refine wpList_store_row rfl 31 _ _ rfl w.heap.size #[.int .i64 kind, .slice an nl cn, .slice ah hl ch, .int .i64 half, .int .i64 age, .int .i64 id, .int .i64 ten, .int .i64 pods, .int .i64 x, .int .i64 y, .int .i64 z, .int .i64 run, .int .i64 lev, .int .i64 pre, .int .i64 n] rfl rfl _ _ R3.out command_len rfl (command_one (⟨kind, nodes, hosts, half, age, ⟨id, ten, pods, ⟨x, y, z⟩, run, lev, pre⟩, n⟩ : Cmd) _ _ _ _ _ _) ?_; rw [HW4.out]) | fail)
    refine (demand_no _).mono ?_
    rintro er w5 ⟨rfl, rfl⟩
    clear c2
    go_wp2_with fail
    refine leaves_cons (f := 30) (args := #[.pointer (some ⟨w.heap.size, 0, none⟩), .pointer (some ⟨w.heap.size + 1, 0, none⟩)]) (by simp) (by simp [go_sem]) ?_
    refine (catch_yes w.heap.size #[.int .i64 kind, .slice an nl cn, .slice ah hl ch, .int .i64 half, .int .i64 age, .int .i64 id, .int .i64 ten, .int .i64 pods, .int .i64 x, .int .i64 y, .int .i64 z, .int .i64 run, .int .i64 lev, .int .i64 pre, .int .i64 n] 0 _ _ _ W4 R4.out rfl E4.out).mono ?_
    rintro e u' w'' ⟨rfl, rfl, rfl⟩
    have k8 : But (w.heap.size + 1) (W4.setRow w.heap.size #[.int .i64 0, .slice none 0 0, .slice none 0 0, .int .i64 0, .int .i64 0, .int .i64 0, .int .i64 0, .int .i64 0, .int .i64 0, .int .i64 0, .int .i64 0, .int .i64 0, .int .i64 0, .int .i64 0, .int .i64 0]) ((W4.setRow w.heap.size #[.int .i64 0, .slice none 0 0, .slice none 0 0, .int .i64 0, .int .i64 0, .int .i64 0, .int .i64 0, .int .i64 0, .int .i64 0, .int .i64 0, .int .i64 0, .int .i64 0, .int .i64 0, .int .i64 0, .int .i64 0]).setCell ⟨w.heap.size + 1, 0, none⟩ (.int .i64 10)) := (But.refl _ _).setCell (p := ⟨w.heap.size + 1, 0, none⟩) (.inr rfl) _
    have r8 := (R4.out.setRow #[.int .i64 0, .slice none 0 0, .slice none 0 0, .int .i64 0, .int .i64 0, .int .i64 0, .int .i64 0, .int .i64 0, .int .i64 0, .int .i64 0, .int .i64 0, .int .i64 0, .int .i64 0, .int .i64 0, .int .i64 0]).keep k8 (by omega)
    have e8 : Row _ (w.heap.size + 1) #[.int .i64 10] 34 := Row.set ((setRow_other W4 w.heap.size (w.heap.size + 1) #[.int .i64 0, .slice none 0 0, .slice none 0 0, .int .i64 0, .int .i64 0, .int .i64 0, .int .i64 0, .int .i64 0, .int .i64 0, .int .i64 0, .int .i64 0, .int .i64 0, .int .i64 0, .int .i64 0, .int .i64 0] (by omega)).trans E4.out) 0 (.int .i64 10)
    simp only [Leaves, settle, List.dropWhile]
    refine ⟨_, results_cell_cell (p := 2) (u := 3) (by kernel_rfl) _ _ w.heap.size _ _ _ _ (w.heap.size + 1) (.int .i64 10) rfl r8 Try.underlying31 rfl command_len rfl (errno_load _ _ _ (e8.at_ 0)), ?_⟩
    exact ⟨.slice none 0 0, .slice none 0 0, rfl, CmAt.none _ _ rfl rfl, (below_row G4.out (Nat.le_refl _) _).setCell (p := ⟨w.heap.size + 1, 0, none⟩) (Nat.le_succ _) _⟩
  subst hs
  have d0 : W4.cell? ⟨w.heap.size, 0, none⟩ = some (.int .i64 kind) := R4.out.at_ 0
  have d1 : W4.cell? ⟨w.heap.size, 1, none⟩ = some (.slice an nl cn) := R4.out.at_ 1
  have d2 : W4.cell? ⟨w.heap.size, 2, none⟩ = some (.slice ah hl ch) := R4.out.at_ 2
  have d3 : W4.cell? ⟨w.heap.size, 3, none⟩ = some (.int .i64 half) := R4.out.at_ 3
  have d4 : W4.cell? ⟨w.heap.size, 4, none⟩ = some (.int .i64 age) := R4.out.at_ 4
  have d5 : W4.cell? ⟨w.heap.size, 5, none⟩ = some (.int .i64 id) := R4.out.at_ 5
  have d6 : W4.cell? ⟨w.heap.size, 6, none⟩ = some (.int .i64 ten) := R4.out.at_ 6
  have d7 : W4.cell? ⟨w.heap.size, 7, none⟩ = some (.int .i64 pods) := R4.out.at_ 7
  have d8 : W4.cell? ⟨w.heap.size, 8, none⟩ = some (.int .i64 x) := R4.out.at_ 8
  have d9 : W4.cell? ⟨w.heap.size, 9, none⟩ = some (.int .i64 y) := R4.out.at_ 9
  have d10 : W4.cell? ⟨w.heap.size, 10, none⟩ = some (.int .i64 z) := R4.out.at_ 10
  have d11 : W4.cell? ⟨w.heap.size, 11, none⟩ = some (.int .i64 run) := R4.out.at_ 11
  have d12 : W4.cell? ⟨w.heap.size, 12, none⟩ = some (.int .i64 lev) := R4.out.at_ 12
  have d13 : W4.cell? ⟨w.heap.size, 13, none⟩ = some (.int .i64 pre) := R4.out.at_ 13
  have d14 : W4.cell? ⟨w.heap.size, 14, none⟩ = some (.int .i64 n) := R4.out.at_ 14
  go_wp2_with (first | (refine wpList_store_row rfl 31 _ _ rfl w.heap.size #[.int .i64 kind, .slice an nl cn, .slice ah hl ch, .int .i64 half, .int .i64 age, .int .i64 id, .int .i64 ten, .int .i64 pods, .int .i64 x, .int .i64 y, .int .i64 z, .int .i64 run, .int .i64 lev, .int .i64 pre, .int .i64 n] rfl rfl _ _ R3.out command_len rfl (command_one (⟨kind, nodes, hosts, half, age, ⟨id, ten, pods, ⟨x, y, z⟩, run, lev, pre⟩, n⟩ : Cmd) _ _ _ _ _ _) ?_; rw [HW4.out]) | fail)
  refine HCK.out.mono ?_
  rintro er w5 ⟨rfl, b5⟩
  have R5 := Lib.hid (R4.out.under b5); have E5 := Lib.hid (E4.out.under b5); have G5 := Lib.hid (G4.out.trans (b5.mono G4.out.size)); have N5 := Lib.hid (own_keep N4.out (But.of_below (b := w.heap.size) b5) (own_low N4.out (by omega))); have M5 := Lib.hid (own_keep M4.out (But.of_below (b := w.heap.size) b5) (own_low M4.out (by omega)))
  clear b5 c2 d0 d1 d2 d3 d4 d5 d6 d7 d8 d9 d10 d11 d12 d13 d14
  by_cases h0 : ck = 0
  case neg =>
    have h0' : (ck == 0) = false := by simpa using h0
    obtain ⟨rfl, rfl⟩ := Prod.mk.inj (HDN2.out (.inr (.inr h0)))
    go_wp2_with fail
    refine (demand_no _).mono ?_
    rintro er w6 ⟨rfl, rfl⟩
    go_wp2_with fail
    refine leaves_cons (f := 30) (args := #[.pointer (some ⟨w.heap.size, 0, none⟩), .pointer (some ⟨w.heap.size + 1, 0, none⟩)]) (by simp) (by simp [go_sem]) ?_
    refine (catch_yes w.heap.size #[.int .i64 kind, .slice an nl cn, .slice ah hl ch, .int .i64 half, .int .i64 age, .int .i64 id, .int .i64 ten, .int .i64 pods, .int .i64 x, .int .i64 y, .int .i64 z, .int .i64 run, .int .i64 lev, .int .i64 pre, .int .i64 n] 0 _ _ _ w5 R5.out rfl E5.out).mono ?_
    rintro e u' w'' ⟨rfl, rfl, rfl⟩
    have k8 : But (w.heap.size + 1) (w5.setRow w.heap.size #[.int .i64 0, .slice none 0 0, .slice none 0 0, .int .i64 0, .int .i64 0, .int .i64 0, .int .i64 0, .int .i64 0, .int .i64 0, .int .i64 0, .int .i64 0, .int .i64 0, .int .i64 0, .int .i64 0, .int .i64 0]) ((w5.setRow w.heap.size #[.int .i64 0, .slice none 0 0, .slice none 0 0, .int .i64 0, .int .i64 0, .int .i64 0, .int .i64 0, .int .i64 0, .int .i64 0, .int .i64 0, .int .i64 0, .int .i64 0, .int .i64 0, .int .i64 0, .int .i64 0]).setCell ⟨w.heap.size + 1, 0, none⟩ (.int .i64 10)) := (But.refl _ _).setCell (p := ⟨w.heap.size + 1, 0, none⟩) (.inr rfl) _
    have r8 := (R5.out.setRow #[.int .i64 0, .slice none 0 0, .slice none 0 0, .int .i64 0, .int .i64 0, .int .i64 0, .int .i64 0, .int .i64 0, .int .i64 0, .int .i64 0, .int .i64 0, .int .i64 0, .int .i64 0, .int .i64 0, .int .i64 0]).keep k8 (by omega)
    have e8 : Row _ (w.heap.size + 1) #[.int .i64 10] 34 := Row.set ((setRow_other w5 w.heap.size (w.heap.size + 1) #[.int .i64 0, .slice none 0 0, .slice none 0 0, .int .i64 0, .int .i64 0, .int .i64 0, .int .i64 0, .int .i64 0, .int .i64 0, .int .i64 0, .int .i64 0, .int .i64 0, .int .i64 0, .int .i64 0, .int .i64 0] (by omega)).trans E5.out) 0 (.int .i64 10)
    simp only [Leaves, settle, List.dropWhile]
    refine ⟨_, results_cell_cell (p := 2) (u := 3) (by kernel_rfl) _ _ w.heap.size _ _ _ _ (w.heap.size + 1) (.int .i64 10) rfl r8 Try.underlying31 rfl command_len rfl (errno_load _ _ _ (e8.at_ 0)), ?_⟩
    exact ⟨.slice none 0 0, .slice none 0 0, rfl, CmAt.none _ _ rfl rfl, (below_row G5.out (Nat.le_refl _) _).setCell (p := ⟨w.heap.size + 1, 0, none⟩) (Nat.le_succ _) _⟩
  subst h0
  obtain ⟨rfl, rfl⟩ := Prod.mk.inj (HDY2.out Q3.out (by trivial) (by trivial))
  go_wp2_with fail
  refine (demand_ok _).mono ?_
  rintro er w6 ⟨rfl, rfl⟩
  have k6 : But w.heap.size w5 (w5.setRow w.heap.size #[.int .i64 kind, .slice an nl cn, .slice ah hl ch, .int .i64 half, .int .i64 age, .int .i64 id, .int .i64 ten, .int .i64 pods, .int .i64 x, .int .i64 y, .int .i64 z, .int .i64 run, .int .i64 lev, .int .i64 pre, .int .i64 n]) := (But.refl _ _).setRow (.inr rfl) _
  have r6 := R5.out.setRow #[.int .i64 kind, .slice an nl cn, .slice ah hl ch, .int .i64 half, .int .i64 age, .int .i64 id, .int .i64 ten, .int .i64 pods, .int .i64 x, .int .i64 y, .int .i64 z, .int .i64 run, .int .i64 lev, .int .i64 pre, .int .i64 n]
  have e6 := E5.out.keep k6 (by omega)
  have g6 : Below w.heap.size w (w5.setRow w.heap.size #[.int .i64 kind, .slice an nl cn, .slice ah hl ch, .int .i64 half, .int .i64 age, .int .i64 id, .int .i64 ten, .int .i64 pods, .int .i64 x, .int .i64 y, .int .i64 z, .int .i64 run, .int .i64 lev, .int .i64 pre, .int .i64 n]) := below_row G5.out (Nat.le_refl _) _
  have c6 : (w5.setRow w.heap.size #[.int .i64 kind, .slice an nl cn, .slice ah hl ch, .int .i64 half, .int .i64 age, .int .i64 id, .int .i64 ten, .int .i64 pods, .int .i64 x, .int .i64 y, .int .i64 z, .int .i64 run, .int .i64 lev, .int .i64 pre, .int .i64 n]).cell? ⟨w.heap.size + 1, 0, none⟩ = some (.int .i64 0) := e6.at_ 0
  have f6 := e6.soft 0
  have k7 : But (w.heap.size + 1) (w5.setRow w.heap.size #[.int .i64 kind, .slice an nl cn, .slice ah hl ch, .int .i64 half, .int .i64 age, .int .i64 id, .int .i64 ten, .int .i64 pods, .int .i64 x, .int .i64 y, .int .i64 z, .int .i64 run, .int .i64 lev, .int .i64 pre, .int .i64 n]) ((w5.setRow w.heap.size #[.int .i64 kind, .slice an nl cn, .slice ah hl ch, .int .i64 half, .int .i64 age, .int .i64 id, .int .i64 ten, .int .i64 pods, .int .i64 x, .int .i64 y, .int .i64 z, .int .i64 run, .int .i64 lev, .int .i64 pre, .int .i64 n]).setCell ⟨w.heap.size + 1, 0, none⟩ (.int .i64 0)) := (But.refl _ _).setCell (p := ⟨w.heap.size + 1, 0, none⟩) (.inr rfl) _
  have r7 := Lib.hid (r6.keep k7 (by omega)); have e7 := Lib.hid (e6.set 0 (.int .i64 0))
  have g7 := Lib.hid (g6.setCell (p := ⟨w.heap.size + 1, 0, none⟩) (Nat.le_succ _) (.int .i64 0))
  have n7 := Lib.hid (own_keep (own_keep N5.out k6 (own_low N5.out (by omega))) k7 (own_low N5.out (by omega))); have m7 := Lib.hid (own_keep (own_keep M5.out k6 (own_low M5.out (by omega))) k7 (own_low M5.out (by omega)))
  clear k6 r6 e6 g6 k7
  go_wp2_with (first
    | (refine wpList_load_row rfl 31 _ rfl w.heap.size rfl _ _ _ _ R5.out Try.underlying31 rfl command_len ?_)
    | (refine wpList_store_row rfl 31 _ _ rfl w.heap.size #[.int .i64 kind, .slice an nl cn, .slice ah hl ch, .int .i64 half, .int .i64 age, .int .i64 id, .int .i64 ten, .int .i64 pods, .int .i64 x, .int .i64 y, .int .i64 z, .int .i64 run, .int .i64 lev, .int .i64 pre, .int .i64 n] rfl rfl _ _ R5.out command_len rfl (command_one (⟨kind, nodes, hosts, half, age, ⟨id, ten, pods, ⟨x, y, z⟩, run, lev, pre⟩, n⟩ : Cmd) _ _ _ _ _ _) ?_)
    | fail)
  refine leaves_cons (f := 30) (args := #[.pointer (some ⟨w.heap.size, 0, none⟩), .pointer (some ⟨w.heap.size + 1, 0, none⟩)]) (by simp) (by simp [go_sem]) ?_
  refine (catch_idle w.heap.size _).mono ?_
  rintro e u' w'' ⟨rfl, rfl, rfl⟩
  simp only [Leaves, settle]
  refine ⟨_, results_cell_cell (p := 2) (u := 3) (by kernel_rfl) _ _ w.heap.size _ _ _ _ (w.heap.size + 1) (.int .i64 0) rfl r7.out Try.underlying31 rfl command_len rfl (errno_load _ _ _ (e7.out.at_ 0)), ?_⟩
  exact ⟨.slice an nl cn, .slice ah hl ch, rfl, CmAt.of_rows n7.out m7.out, g7.out⟩

theorem theCmC : CmC where
  check := fun c vn vh w _ _ h => cCheckAt h
  encode := fun c vn vh w _ _ h => cEncodeAt h
  decode := fun s w _ => cDecode_any s w
  same := fun a b va ha vb hb w _ _ _ _ h1 h2 => cSameAt h1 h2
end Go.Proofs.Ytpnfhcpapjomnaa
