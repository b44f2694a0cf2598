/- Amounts: all resources, one behind the other. -/
import Derived.Test.YtkdllgnejkmfhaaVecB
namespace Go.Proofs.Ytkdllgnejkmfhaa
open Go.RowKit
set_option linter.unusedVariables false

/-- The first r numbers of s, then 0. -/
def upto (r : Nat) (s : Nat → Int) (i : Nat) : Int := if i < r then s i else 0
/-- The block V.heap.size holds the first r numbers of s; answers may have been drawn. -/
def Filled (V : World) (s : Nat → Int) (r : Nat) (w : World) : Prop := ∃ n, w = (V.alloc (.cells #[.int .i64 (upto r s 0), .int .i64 (upto r s 1), .int .i64 (upto r s 2)] 23)).drewN n

theorem filled_step (V : World) (s : Nat → Int) (r : Nat) (hr : r < 3) (n : Nat) :
    Filled V s (r + 1) (((V.alloc (.cells #[.int .i64 (upto r s 0), .int .i64 (upto r s 1), .int .i64 (upto r s 2)] 23)).drewN n).drew.setCell ⟨V.heap.size, r, none⟩ (.int .i64 (s r))) := by
  refine ⟨n + 1, ?_⟩
  have h := World.setCell_alloc_at (w := V) #[.int .i64 (upto r s 0), .int .i64 (upto r s 1), .int .i64 (upto r s 2)] 23 V.heap.size r (.int .i64 (s r)) rfl
  show ((V.alloc _).setCell _ _).drewN (n + 1) = _
  rw [h]
  have hk : r = 0 ∨ r = 1 ∨ r = 2 := by omega
  rcases hk with rfl | rfl | rfl <;> rfl

theorem filled_end (V : World) (s : Nat → Int) (w : World) (h : Filled V s 3 w) : ∃ n, w = (V.alloc (.cells #[.int .i64 (s 0), .int .i64 (s 1), .int .i64 (s 2)] 23)).drewN n := h

/-- Behind the walk over all resources: the new amount is s. -/
def Drawn (V : World) (c : Array Value) (t : Nat) (e : Ending) (w' : World) : Prop := e = .returned (.tuple #[]) ∧ ∃ n, w' = (V.alloc (.cells c t)).drewN n

theorem each_two (k A B : Nat) (oB : Nat → Nat) (a b s : Nat → Int) (V : World) (S : Nat) (hS : V.heap.size = S) (hk : Enters k #[.pointer (some ⟨A, 0, none⟩), .pointer (some ⟨B, 0, none⟩), .pointer (some ⟨S, 0, none⟩)])
    (hA : A < V.heap.size) (hB : B < V.heap.size) (ca : ∀ r : Nat, r < 3 → V.cell? ⟨A, r, none⟩ = some (.int .i64 (a r))) (cb : ∀ r : Nat, r < 3 → V.cell? ⟨B, oB r, none⟩ = some (.int .i64 (b r)))
    (hc : ∀ (r : Nat) (z : Int) (w : World), r < 3 → w.cell? ⟨A, r, none⟩ = some (.int .i64 (a r)) → w.cell? ⟨B, oB r, none⟩ = some (.int .i64 (b r)) → w.cell? ⟨S, r, none⟩ = some (.int .i64 z) → w.frozen? ⟨S, r, none⟩ = false →
      Calls Try.prog k #[.int .i64 (r : Int), .pointer (some ⟨A, 0, none⟩), .pointer (some ⟨B, 0, none⟩), .pointer (some ⟨S, 0, none⟩)] w fun e w' => e = .returned (.tuple #[]) ∧ w' = w.drew.setCell ⟨S, r, none⟩ (.int .i64 (s r))) :
    Calls Try.prog 24 #[.func (.func k) #[] #[.pointer (some ⟨A, 0, none⟩), .pointer (some ⟨B, 0, none⟩), .pointer (some ⟨S, 0, none⟩)]] (V.alloc (.cells #[.int .i64 0, .int .i64 0, .int .i64 0] 23))
      (Drawn V #[.int .i64 (s 0), .int .i64 (s 1), .int .i64 (s 2)] 23) := by
  subst hS
  refine (each_any k _ hk (Filled V s) (fun r hr w hI => ?_) _ ⟨0, rfl⟩).mono fun e w' h => ⟨h.1, filled_end V s w' h.2⟩
  obtain ⟨n, rfl⟩ := hI
  have hS : ((V.alloc (.cells #[.int .i64 (upto r s 0), .int .i64 (upto r s 1), .int .i64 (upto r s 2)] 23)).drewN n).cell? ⟨V.heap.size, r, none⟩ = some (.int .i64 (upto r s r)) := by
    refine (World.cell?_alloc_at (w := V) _ _ _ r rfl).trans ?_
    have hk : r = 0 ∨ r = 1 ∨ r = 2 := by omega
    rcases hk with rfl | rfl | rfl <;> rfl
  refine (hc r _ _ hr ?_ ?_ hS ?_).mono ?_
  · exact (World.cell?_alloc_past (w := V) _ _ _ hA).trans (ca r hr)
  · exact (World.cell?_alloc_past (w := V) _ _ _ hB).trans (cb r hr)
  · exact World.frozen?_alloc_at (w := V) _ _ _ r rfl
  · rintro e w' ⟨rfl, rfl⟩
    exact ⟨rfl, filled_step V s r hr n⟩

/-- All resources, where each walk only turns the newest block. -/
theorem each_on (k : Nat) (cap : Array Value) (V : World) (row : Nat → Array Value) (t : Nat) (hk : Enters k cap)
    (hc : ∀ r n : Nat, r < 3 → Calls Try.prog k (#[.int .i64 (r : Int)] ++ cap) ((V.alloc (.cells (row r) t)).drewN n) (Drawn V (row (r + 1)) t)) :
    Calls Try.prog 24 #[.func (.func k) #[] cap] (V.alloc (.cells (row 0) t)) (Drawn V (row 3) t) := by
  refine (each_any k cap hk (fun r w => ∃ n, w = (V.alloc (.cells (row r) t)).drewN n) (fun r hr w hI => ?_) _ ⟨0, rfl⟩).mono fun e w' h => h
  obtain ⟨n, rfl⟩ := hI
  exact (hc r n hr).mono fun e w' h => h

theorem cell3 (V : World) (A : Nat) (a : Nat → Int) (h0 : V.cell? ⟨A, 0, none⟩ = some (.int .i64 (a 0))) (h1 : V.cell? ⟨A, 1, none⟩ = some (.int .i64 (a 1))) (h2 : V.cell? ⟨A, 2, none⟩ = some (.int .i64 (a 2))) :
    ∀ r : Nat, r < 3 → V.cell? ⟨A, r, none⟩ = some (.int .i64 (a r)) := fun r hr => by
  have hk : r = 0 ∨ r = 1 ∨ r = 2 := by omega
  rcases hk with rfl | rfl | rfl <;> assumption

set_option maxHeartbeats 400000 in
theorem vAdd_any (a b : Nat → Int) (w : World) :
    Calls Try.prog 9 #[.agg #[.int .i64 (a 0), .int .i64 (a 1), .int .i64 (a 2)], .agg #[.int .i64 (b 0), .int .i64 (b 1), .int .i64 (b 2)]] w (RetGrown (.agg #[.int .i64 (Vc.addv a b 0), .int .i64 (Vc.addv a b 1), .int .i64 (Vc.addv a b 2)]) w) := by
  have hmf : ∀ (fn : Fn) (first cap : Array Value) (w : World), (Instr.makeFunc fn first cap).run Try.prog w = .ok (.func fn first cap) w := fun _ _ _ _ => rfl
  go_enter Try.func9, Try.ntmps9
  go_wp2_with fail
  refine (each_two 25 w.heap.size (w.heap.size + 1) id a b (Vc.addv a b)
    (((w.alloc (.cells #[.int .i64 (a 0), .int .i64 (a 1), .int .i64 (a 2)] 23)).alloc (.cells #[.int .i64 (b 0), .int .i64 (b 1), .int .i64 (b 2)] 23)).alloc (.cells #[.int .i64 0, .int .i64 0, .int .i64 0] 23))
    (w.heap.size + 1 + 1 + 1) (by simp) (fun _ _ => rfl) (by simp; omega) (by simp) (cell3 _ _ _ (by go_simp) (by go_simp) (by go_simp)) (cell3 _ _ _ (by go_simp) (by go_simp) (by go_simp))
    (fun r z w hr hA hB hS hf => addOne_any r hr _ _ _ _ _ z w hA hB hS hf)).mono ?_
  rintro e w' ⟨rfl, n, rfl⟩
  have hd := setCell_drewN
  go_wp2_with fail
  exact bodyPost_ret (results_cell_row (p := 4) (by kernel_rfl) _ _ (w.heap.size + 1 + 1) _ _ _ _ rfl (heap_second _ _ _ _ _ (by simp)) Try.underlying23 rfl (by kernel_rfl)) rfl ⟨rfl, grown_drewN' (((((Grown.refl _).alloc _ _).alloc _ _).alloc _ _).alloc _ _) n⟩

set_option maxHeartbeats 400000 in
theorem vSub_any (a b : Nat → Int) (w : World) :
    Calls Try.prog 11 #[.agg #[.int .i64 (a 0), .int .i64 (a 1), .int .i64 (a 2)], .agg #[.int .i64 (b 0), .int .i64 (b 1), .int .i64 (b 2)]] w (RetGrown (.agg #[.int .i64 (Vc.subv a b 0), .int .i64 (Vc.subv a b 1), .int .i64 (Vc.subv a b 2)]) w) := by
  have hmf : ∀ (fn : Fn) (first cap : Array Value) (w : World), (Instr.makeFunc fn first cap).run Try.prog w = .ok (.func fn first cap) w := fun _ _ _ _ => rfl
  go_enter Try.func11, Try.ntmps11
  go_wp2_with fail
  refine (each_two 28 w.heap.size (w.heap.size + 1) id a b (Vc.subv a b)
    (((w.alloc (.cells #[.int .i64 (a 0), .int .i64 (a 1), .int .i64 (a 2)] 23)).alloc (.cells #[.int .i64 (b 0), .int .i64 (b 1), .int .i64 (b 2)] 23)).alloc (.cells #[.int .i64 0, .int .i64 0, .int .i64 0] 23))
    (w.heap.size + 1 + 1 + 1) (by simp) (fun _ _ => rfl) (by simp; omega) (by simp) (cell3 _ _ _ (by go_simp) (by go_simp) (by go_simp)) (cell3 _ _ _ (by go_simp) (by go_simp) (by go_simp))
    (fun r z w hr hA hB hS hf => subOne_any r hr _ _ _ _ _ z w hA hB hS hf)).mono ?_
  rintro e w' ⟨rfl, n, rfl⟩
  have hd := setCell_drewN
  go_wp2_with fail
  exact bodyPost_ret (results_cell_row (p := 4) (by kernel_rfl) _ _ (w.heap.size + 1 + 1) _ _ _ _ rfl (heap_second _ _ _ _ _ (by simp)) Try.underlying23 rfl (by kernel_rfl)) rfl ⟨rfl, grown_drewN' (((((Grown.refl _).alloc _ _).alloc _ _).alloc _ _).alloc _ _) n⟩

set_option maxHeartbeats 400000 in
theorem vMin_any (a b : Nat → Int) (w : World) :
    Calls Try.prog 15 #[.agg #[.int .i64 (a 0), .int .i64 (a 1), .int .i64 (a 2)], .agg #[.int .i64 (b 0), .int .i64 (b 1), .int .i64 (b 2)]] w (RetGrown (.agg #[.int .i64 (Vc.leastv a b 0), .int .i64 (Vc.leastv a b 1), .int .i64 (Vc.leastv a b 2)]) w) := by
  have hmf : ∀ (fn : Fn) (first cap : Array Value) (w : World), (Instr.makeFunc fn first cap).run Try.prog w = .ok (.func fn first cap) w := fun _ _ _ _ => rfl
  go_enter Try.func15, Try.ntmps15
  go_wp2_with fail
  refine (each_two 30 w.heap.size (w.heap.size + 1) id a b (Vc.leastv a b)
    (((w.alloc (.cells #[.int .i64 (a 0), .int .i64 (a 1), .int .i64 (a 2)] 23)).alloc (.cells #[.int .i64 (b 0), .int .i64 (b 1), .int .i64 (b 2)] 23)).alloc (.cells #[.int .i64 0, .int .i64 0, .int .i64 0] 23))
    (w.heap.size + 1 + 1 + 1) (by simp) (fun _ _ => rfl) (by simp; omega) (by simp) (cell3 _ _ _ (by go_simp) (by go_simp) (by go_simp)) (cell3 _ _ _ (by go_simp) (by go_simp) (by go_simp))
    (fun r z w hr hA hB hS hf => minOne_any r hr _ _ _ _ _ z w hA hB hS hf)).mono ?_
  rintro e w' ⟨rfl, n, rfl⟩
  have hd := setCell_drewN
  go_wp2_with fail
  exact bodyPost_ret (results_cell_row (p := 4) (by kernel_rfl) _ _ (w.heap.size + 1 + 1) _ _ _ _ rfl (heap_second _ _ _ _ _ (by simp)) Try.underlying23 rfl (by kernel_rfl)) rfl ⟨rfl, grown_drewN' (((((Grown.refl _).alloc _ _).alloc _ _).alloc _ _).alloc _ _) n⟩

set_option maxHeartbeats 400000 in
theorem vTimes_any (a : Nat → Int) (m : Int) (w : World) :
    Calls Try.prog 18 #[.agg #[.int .i64 (a 0), .int .i64 (a 1), .int .i64 (a 2)], .int .i64 m] w (RetGrown (.agg #[.int .i64 (Vc.timesv a m 0), .int .i64 (Vc.timesv a m 1), .int .i64 (Vc.timesv a m 2)]) w) := by
  have hmf : ∀ (fn : Fn) (first cap : Array Value) (w : World), (Instr.makeFunc fn first cap).run Try.prog w = .ok (.func fn first cap) w := fun _ _ _ _ => rfl
  go_enter Try.func18, Try.ntmps18
  go_wp2_with fail
  refine (each_two 31 w.heap.size (w.heap.size + 1) (fun _ => 0) a (fun _ => m) (Vc.timesv a m)
    (((w.alloc (.cells #[.int .i64 (a 0), .int .i64 (a 1), .int .i64 (a 2)] 23)).alloc (.cells #[.int .i64 m] 3)).alloc (.cells #[.int .i64 0, .int .i64 0, .int .i64 0] 23))
    (w.heap.size + 1 + 1 + 1) (by simp) (fun _ _ => rfl) (by simp; omega) (by simp) (cell3 _ _ _ (by go_simp) (by go_simp) (by go_simp)) (fun _ _ => by go_simp)
    (fun r z w hr hA hB hS hf => timesOne_any r hr _ _ _ _ _ z w hA hB hS hf)).mono ?_
  rintro e w' ⟨rfl, n, rfl⟩
  have hd := setCell_drewN
  go_wp2_with fail
  exact bodyPost_ret (results_cell_row (p := 4) (by kernel_rfl) _ _ (w.heap.size + 1 + 1) _ _ _ _ rfl (heap_second _ _ _ _ _ (by simp)) Try.underlying23 rfl (by kernel_rfl)) rfl ⟨rfl, grown_drewN' (((((Grown.refl _).alloc _ _).alloc _ _).alloc _ _).alloc _ _) n⟩

theorem step_bool (V : World) (t : Nat) (n : Nat) (a b : Value) : (((V.alloc (.cells #[a] t)).drewN n).setCell ⟨V.heap.size, 0, none⟩ b) = (V.alloc (.cells #[b] t)).drewN n := by
  have h := World.setCell_alloc_at (w := V) #[a] t V.heap.size 0 b rfl
  show ((V.alloc _).setCell _ _).drewN n = _
  rw [h]
  rfl

theorem each_fits (A B : Nat) (a b : Nat → Int) (V : World) (S : Nat) (hS : V.heap.size = S) (hA : A < V.heap.size) (hB : B < V.heap.size) (ca : ∀ r : Nat, r < 3 → V.cell? ⟨A, r, none⟩ = some (.int .i64 (a r))) (cb : ∀ r : Nat, r < 3 → V.cell? ⟨B, r, none⟩ = some (.int .i64 (b r))) :
    Calls Try.prog 24 #[.func (.func 29) #[] #[.pointer (some ⟨S, 0, none⟩), .pointer (some ⟨A, 0, none⟩), .pointer (some ⟨B, 0, none⟩)]] (V.alloc (.cells #[.bool true] 4)) (Drawn V #[.bool (Vc.fits a b)] 4) := by
  subst hS
  refine each_on _ _ V (fun r => #[.bool (Vc.fitsTo a b r)]) 4 (fun _ _ => rfl) (fun r n hr => ?_)
  refine (fitsOne_any r hr A B V.heap.size (a r) (b r) (Vc.fitsTo a b r) _ (top_cell V _ n _) (top_free V _ _ n _) (old_cell V _ n _ _ hA (ca r hr)) (old_cell V _ n _ _ hB (cb r hr))).mono ?_
  rintro e w' ⟨rfl, rfl⟩
  exact ⟨rfl, n + 1, step_bool V _ (n + 1) _ _⟩

theorem each_valid (A : Nat) (a : Nat → Int) (V : World) (S : Nat) (hS : V.heap.size = S) (hA : A < V.heap.size) (ca : ∀ r : Nat, r < 3 → V.cell? ⟨A, r, none⟩ = some (.int .i64 (a r))) :
    Calls Try.prog 24 #[.func (.func 33) #[] #[.pointer (some ⟨S, 0, none⟩), .pointer (some ⟨A, 0, none⟩)]] (V.alloc (.cells #[.bool true] 4)) (Drawn V #[.bool (Vc.valid a)] 4) := by
  subst hS
  refine each_on _ _ V (fun r => #[.bool (Vc.validTo a r)]) 4 (fun _ _ => rfl) (fun r n hr => ?_)
  refine (validOne_any r hr A V.heap.size (a r) (Vc.validTo a r) _ (top_cell V _ n _) (top_free V _ _ n _) (old_cell V _ n _ _ hA (ca r hr))).mono ?_
  rintro e w' ⟨rfl, rfl⟩
  exact ⟨rfl, n, step_bool V _ n _ _⟩

theorem each_dom (A B : Nat) (a b : Nat → Int) (V : World) (S : Nat) (hS : V.heap.size = S) (hA : A < V.heap.size) (hB : B < V.heap.size) (ca : ∀ r : Nat, r < 3 → V.cell? ⟨A, r, none⟩ = some (.int .i64 (a r))) (cb : ∀ r : Nat, r < 3 → V.cell? ⟨B, r, none⟩ = some (.int .i64 (b r)))
    (ra : ∀ r : Nat, r < 3 → -9223372036854775808 ≤ a r ∧ a r ≤ 9223372036854775807) (rb : ∀ r : Nat, r < 3 → -9223372036854775808 ≤ b r ∧ b r ≤ 9223372036854775807) :
    Calls Try.prog 24 #[.func (.func 34) #[] #[.pointer (some ⟨A, 0, none⟩), .pointer (some ⟨S, 0, none⟩), .pointer (some ⟨B, 0, none⟩)]] (V.alloc (.cells #[.int .u64 0] 31)) (Drawn V #[.int .u64 (Vc.domv a b)] 31) := by
  subst hS
  refine each_on _ _ V (fun r => #[.int .u64 (Vc.domTo a b r)]) 31 (fun _ _ => rfl) (fun r n hr => ?_)
  refine (domOne_any r hr A V.heap.size B (a r) (b r) (Vc.domTo a b r) _ (old_cell V _ n _ _ hA (ca r hr)) (top_cell V _ n _) (top_free V _ _ n _) (old_cell V _ n _ _ hB (cb r hr)) (ra r hr).1 (ra r hr).2 (rb r hr).1 (rb r hr).2).mono ?_
  rintro e w' ⟨rfl, m, h⟩
  rcases h with rfl | ⟨hv, rfl⟩
  · exact ⟨rfl, n + m, by rw [step_bool V _ n _ _, World.drewN_drewN]; rfl⟩
  · refine ⟨rfl, n + m, ?_⟩
    have e : Vc.domTo a b (r + 1) = Vc.domTo a b r := hv
    rw [e, World.drewN_drewN]

set_option maxHeartbeats 400000 in
theorem vFits_any (a b : Nat → Int) (w : World) :
    Calls Try.prog 13 #[.agg #[.int .i64 (a 0), .int .i64 (a 1), .int .i64 (a 2)], .agg #[.int .i64 (b 0), .int .i64 (b 1), .int .i64 (b 2)]] w (RetGrown (.bool (Vc.fits a b)) w) := by
  have hmf : ∀ (fn : Fn) (first cap : Array Value) (w : World), (Instr.makeFunc fn first cap).run Try.prog w = .ok (.func fn first cap) w := fun _ _ _ _ => rfl
  go_enter Try.func13, Try.ntmps13
  go_wp2_with fail
  refine (each_fits w.heap.size (w.heap.size + 1) a b
    ((w.alloc (.cells #[.int .i64 (a 0), .int .i64 (a 1), .int .i64 (a 2)] 23)).alloc (.cells #[.int .i64 (b 0), .int .i64 (b 1), .int .i64 (b 2)] 23))
    (w.heap.size + 1 + 1) (by simp) (by simp; omega) (by simp) (cell3 _ _ _ (by go_simp) (by go_simp) (by go_simp)) (cell3 _ _ _ (by go_simp) (by go_simp) (by go_simp))).mono ?_
  rintro e w' ⟨rfl, n, rfl⟩
  go_wp2_with fail
  go_ret
  exact ⟨rfl, grown_drewN' ((((Grown.refl _).alloc _ _).alloc _ _).alloc _ _) n⟩

set_option maxHeartbeats 400000 in
theorem vOver_any (a b : Nat → Int) (w : World) :
    Calls Try.prog 14 #[.agg #[.int .i64 (a 0), .int .i64 (a 1), .int .i64 (a 2)], .agg #[.int .i64 (b 0), .int .i64 (b 1), .int .i64 (b 2)]] w (RetGrown (.bool (!Vc.fits a b)) w) := by
  go_enter Try.func14, Try.ntmps14
  go_wp2_with fail
  refine (vFits_any a b _).mono ?_
  rintro e w' ⟨rfl, g⟩
  go_wp2_with fail
  go_ret
  exact ⟨rfl, grown_trans (((Grown.refl _).alloc _ _).alloc _ _) g⟩

set_option maxHeartbeats 400000 in
theorem vValid_any (a : Nat → Int) (w : World) :
    Calls Try.prog 20 #[.agg #[.int .i64 (a 0), .int .i64 (a 1), .int .i64 (a 2)]] w (RetGrown (.bool (Vc.valid a)) w) := by
  have hmf : ∀ (fn : Fn) (first cap : Array Value) (w : World), (Instr.makeFunc fn first cap).run Try.prog w = .ok (.func fn first cap) w := fun _ _ _ _ => rfl
  go_enter Try.func20, Try.ntmps20
  go_wp2_with fail
  refine (each_valid w.heap.size a (w.alloc (.cells #[.int .i64 (a 0), .int .i64 (a 1), .int .i64 (a 2)] 23))
    (w.heap.size + 1) (by simp) (by simp) (cell3 _ _ _ (by go_simp) (by go_simp) (by go_simp))).mono ?_
  rintro e w' ⟨rfl, n, rfl⟩
  go_wp2_with fail
  go_ret
  exact ⟨rfl, grown_drewN' (((Grown.refl _).alloc _ _).alloc _ _) n⟩

set_option maxHeartbeats 400000 in
theorem vDominant_any (a b : Nat → Int) (ra : ∀ r : Nat, r < 3 → -9223372036854775808 ≤ a r ∧ a r ≤ 9223372036854775807) (rb : ∀ r : Nat, r < 3 → -9223372036854775808 ≤ b r ∧ b r ≤ 9223372036854775807) (w : World) :
    Calls Try.prog 22 #[.agg #[.int .i64 (a 0), .int .i64 (a 1), .int .i64 (a 2)], .agg #[.int .i64 (b 0), .int .i64 (b 1), .int .i64 (b 2)]] w (RetGrown (.int .u64 (Vc.domv a b)) w) := by
  have hmf : ∀ (fn : Fn) (first cap : Array Value) (w : World), (Instr.makeFunc fn first cap).run Try.prog w = .ok (.func fn first cap) w := fun _ _ _ _ => rfl
  go_enter Try.func22, Try.ntmps22
  go_wp2_with fail
  refine (each_dom w.heap.size (w.heap.size + 1) a b
    ((w.alloc (.cells #[.int .i64 (a 0), .int .i64 (a 1), .int .i64 (a 2)] 23)).alloc (.cells #[.int .i64 (b 0), .int .i64 (b 1), .int .i64 (b 2)] 23))
    (w.heap.size + 1 + 1) (by simp) (by simp; omega) (by simp) (cell3 _ _ _ (by go_simp) (by go_simp) (by go_simp)) (cell3 _ _ _ (by go_simp) (by go_simp) (by go_simp)) ra rb).mono ?_
  rintro e w' ⟨rfl, n, rfl⟩
  go_wp2_with fail
  go_ret
  exact ⟨rfl, grown_drewN' ((((Grown.refl _).alloc _ _).alloc _ _).alloc _ _) n⟩

end Go.Proofs.Ytkdllgnejkmfhaa
