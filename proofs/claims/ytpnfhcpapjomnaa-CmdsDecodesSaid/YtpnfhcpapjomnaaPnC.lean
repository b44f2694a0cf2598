/- The landed numbers: GetVec. -/
import Derived.Test.YtpnfhcpapjomnaaPnB
import Derived.Deep.MidRow
import Derived.Deep.WholeRow
namespace Go.Proofs.Ytpnfhcpapjomnaa
open Go.RowKit
set_option linter.unusedVariables false

set_option maxHeartbeats 1000000 in
theorem GetVec_any (s : ByteArray) (w : World) : Calls Try.prog 61 #[.string s] w (RetBelow (Nu.ansV (Nu.getV s)) w) := by
  obtain ⟨q, hq⟩ : ∃ q, Nu.getV s = q := ⟨_, rfl⟩
  rw [hq]
  have HQ := Lib.hid hq; clear hq
  go_enter Try.func61, Try.ntmps61
  go_wp2_with fail
  go_loopw [6, 11] (fun a i wr => ∃ (r : Nat), r ≤ 3 ∧ a = .int .i64 ((Nu.seek s r : Nat) : Int) ∧ i = .int .i64 (r : Int) ∧ Hid (∀ i, i < r → (Nu.part s i).2.2 = 0) ∧ wr = (w.alloc (.cells #[.int .i64 0, .int .i64 0, .int .i64 0] 27)).alloc (.cells (Nu.row s r) 27)) (fun _ i _ => 3 - (intOf i).toNat)
  case atStart => exact ⟨0, by omega, rfl, rfl, fun i hi => by omega, rfl⟩
  case round =>
    obtain ⟨r, hr, rfl, rfl, hd, rfl⟩ := hrel
    have hsk := Nu.seek_le s r
    by_cases hlt : r < 3
    · have hcut := fun w => str_from s (Nu.seek s r) hsk.1 w
      have hg := Get_any (s.extract (Nu.seek s r) s.size)
      have hrow := till_set s r hlt
      have hsk1 : Nu.seek s (r + 1) = Nu.seek s r + (Nu.part s r).2.1 := Nu.seek_succ s r
      have herr := Nu.get_err (s.extract (Nu.seek s r) s.size)
      have hrg := Nu.get_range (s.extract (Nu.seek s r) s.size)
      change ∀ w, Calls _ _ _ _ (fun e w' => e = .returned (Nu.ans (Nu.part s r)) ∧ w = w') at hg
      change (Nu.part s r).2.2 = 0 ∨ Nu.part s r = (0, 0, 10) at herr
      change (Nu.part s r).1 < _ ∧ (Nu.part s r).2.1 ≤ 9 ∧ _ at hrg
      obtain ⟨W, hW⟩ : ∃ W, (w.alloc (.cells #[.int .i64 0, .int .i64 0, .int .i64 0] 27)).alloc (.cells (Nu.row s r) 27) = W := ⟨_, rfl⟩
      have hset : W.setCell ⟨w.heap.size + 1, r, none⟩ (.int .i64 ((Nu.part s r).1 : Int)) = (w.alloc (.cells #[.int .i64 0, .int .i64 0, .int .i64 0] 27)).alloc (.cells (Nu.row s (r + 1)) 27) := by
        rw [← hrow, ← hW]
        have h := World.setCell_alloc_at (w := w.alloc (.cells #[.int .i64 0, .int .i64 0, .int .i64 0] 27)) (Nu.row s r) 27 (w.heap.size + 1) r (.int .i64 ((Nu.part s r).1 : Int)) (by simp)
        exact h
      have hc0 : W.cell? ⟨w.heap.size + 1, r, none⟩ = some (.int .i64 (Nu.till s r r)) := by
        rw [← hW]
        refine (World.cell?_alloc_at (w := w.alloc (.cells #[.int .i64 0, .int .i64 0, .int .i64 0] 27)) _ _ _ r (by simp)).trans ?_
        have h : r = 0 ∨ r = 1 ∨ r = 2 := by omega
        rcases h with rfl | rfl | rfl <;> rfl
      have hf0 : W.frozen? ⟨w.heap.size + 1, r, none⟩ = false := by
        rw [← hW]
        exact World.frozen?_alloc_at (w := w.alloc (.cells #[.int .i64 0, .int .i64 0, .int .i64 0] 27)) _ _ _ r (by simp)
      obtain ⟨a, ha⟩ : ∃ a : Int, ((Nu.seek s r : Nat) : Int) = a := ⟨_, rfl⟩
      have ha0 : 0 ≤ a ∧ a ≤ 27 := by omega
      rw [ha] at hcut ⊢
      obtain ⟨P, hP⟩ : ∃ P, Nu.part s r = P := ⟨_, rfl⟩
      have hq : P.2.2 ≠ 0 → q = ((0, 0, 0), 0, 10) := fun h => by rw [← HQ.out]; exact getV_no hlt (by rw [hP]; exact h)
      have hall : P.2.2 = 0 → ∀ i, i < r + 1 → (Nu.part s i).2.2 = 0 := fun h i hi => by
        rcases Nat.lt_or_ge i r with h' | h'
        · exact hd.out i h'
        · have : i = r := by omega
          subst this; rw [hP]; exact h
      rw [hP] at hg hsk1 herr hrg hset
      obtain ⟨n, k, e⟩ := P
      obtain ⟨nn, hn⟩ : ∃ x : Int, (n : Int) = x := ⟨_, rfl⟩
      obtain ⟨kk, hk⟩ : ∃ x : Int, (k : Int) = x := ⟨_, rfl⟩
      have hk0 : 0 ≤ kk ∧ kk ≤ 9 := by simp only at hrg; omega
      have hnx : ((Nu.seek s (r + 1) : Nat) : Int) = a + kk := by simp only at hsk1; omega
      unfold Nu.ans at hg
      simp only [hn, hk] at hg hset hq herr hall
      have HG := Lib.hid hg; have HS := Lib.hid hset; have HN := Lib.hid hnx; have HW := Lib.hid hW; have HA := Lib.hid hall; have HE := Lib.hid hq
      clear hg hrow hsk1 hrg hset hq hall hnx hn hk hP ha hsk HQ
      rw [HW.out]
      by_cases he : e = 0
      · subst he
        go_wp2_with fail
        refine (HG.out _).mono ?_
        rintro e w1 ⟨rfl, rfl⟩
        go_wp2_with fail
        go_roundw
        case rel => exact ⟨r + 1, by omega, by rw [HN.out], by go_num, HA.out trivial, HS.out⟩
        case measure => simp [intOf]; omega
      · have he' : (e != 0) = true := by simpa using he
        go_wp2_with fail
        refine (HG.out _).mono ?_
        rintro e w1 ⟨rfl, rfl⟩
        have hqe := HE.out he
        have hee : e = 10 := herr.elim (fun h => absurd h he) fun h => by injection h with _ h; injection h
        have hth := vec_there w (Nu.row s r)
        have hu := Lib.hid (vec_under w (Nu.row s r) 0 0 0)
        rw [HW.out] at hth hu
        have HQE := Lib.hid (And.intro hqe hee)
        clear hqe hee herr
        go_wp2_with (first | (refine wpList_store_mid rfl 27 (.tmp 2) (.tmp 24) rfl w.heap.size 0 #[.int .i64 0, .int .i64 0, .int .i64 0] rfl rfl hth (by kernel_rfl) (one_cells 0 0 0) ?_; obtain ⟨W', hW'⟩ : ∃ W', W.setCells w.heap.size 0 [.int .i64 0, .int .i64 0, .int .i64 0] = W' := ⟨_, rfl⟩; rw [hW'] at hu; rw [show (#[Value.int .i64 0, .int .i64 0, .int .i64 0] : Array Value).toList = [.int .i64 0, .int .i64 0, .int .i64 0] from rfl, hW']; clear hW' hth) | fail)
        refine bodyPost_ret (results_cell_two (p := 2) (u := 3) (v := 4) (by kernel_rfl) _ _ w.heap.size _ _ _ _ rfl hu.out.1 Try.underlying27 rfl (by kernel_rfl)) rfl ?_
        exact ⟨by rw [HQE.out.1, HQE.out.2]; rfl, hu.out.2⟩
    · obtain rfl : r = 3 := by omega
      have hq := (getV_yes hd.out).symm.trans HQ.out
      have hrow : Nu.row s 3 = #[.int .i64 ((Nu.part s 0).1 : Int), .int .i64 ((Nu.part s 1).1 : Int), .int .i64 ((Nu.part s 2).1 : Int)] := rfl
      rw [hrow]
      have HQE := Lib.hid hq
      clear hq hrow HQ hsk
      obtain ⟨x, hx⟩ : ∃ x : Int, ((Nu.part s 0).1 : Int) = x := ⟨_, rfl⟩
      obtain ⟨y, hy⟩ : ∃ x : Int, ((Nu.part s 1).1 : Int) = x := ⟨_, rfl⟩
      obtain ⟨z, hz⟩ : ∃ x : Int, ((Nu.part s 2).1 : Int) = x := ⟨_, rfl⟩
      obtain ⟨a, ha⟩ : ∃ a : Int, ((Nu.seek s 3 : Nat) : Int) = a := ⟨_, rfl⟩
      have HA : Hid (Nu.ansV q = .tuple #[.agg #[.int .i64 x, .int .i64 y, .int .i64 z], .int .i64 a, .int .i64 0]) := Lib.hid (by rw [← HQE.out]; unfold Nu.ansV; simp only [hx, hy, hz, ha])
      rw [hx, hy, hz, ha]
      clear hx hy hz ha HQE
      have hth := vec_there w #[.int .i64 x, .int .i64 y, .int .i64 z]
      have hu := Lib.hid (vec_under w #[.int .i64 x, .int .i64 y, .int .i64 z] x y z)
      have hrg := vec_range (w.alloc (.cells #[.int .i64 0, .int .i64 0, .int .i64 0] 27)) x y z
      rw [show (w.alloc (.cells #[.int .i64 0, .int .i64 0, .int .i64 0] 27)).heap.size = w.heap.size + 1 by simp] at hrg
      obtain ⟨W, hW⟩ : ∃ W, (w.alloc (.cells #[.int .i64 0, .int .i64 0, .int .i64 0] 27)).alloc (.cells #[.int .i64 x, .int .i64 y, .int .i64 z] 27) = W := ⟨_, rfl⟩
      rw [hW] at hth hu hrg ⊢
      clear hW
      go_wp2_with (first
        | (refine wpList_load_mid rfl 27 (.tmp 5) rfl (w.heap.size + 1) 0 rfl [.int .i64 x, .int .i64 y, .int .i64 z] _ hrg Try.underlying27 rfl (by kernel_rfl) ?_)
        | (refine wpList_store_mid rfl 27 (.tmp 2) (.tmp 33) rfl w.heap.size 0 #[.int .i64 x, .int .i64 y, .int .i64 z] rfl rfl hth (by kernel_rfl) (one_cells x y z) ?_; obtain ⟨W', hW'⟩ : ∃ W', W.setCells w.heap.size 0 [.int .i64 x, .int .i64 y, .int .i64 z] = W' := ⟨_, rfl⟩; rw [hW'] at hu; rw [show (#[Value.int .i64 x, .int .i64 y, .int .i64 z] : Array Value).toList = [.int .i64 x, .int .i64 y, .int .i64 z] from rfl, hW']; clear hW' hth)
        | fail)
      refine bodyPost_ret (results_cell_two (p := 2) (u := 3) (v := 4) (by kernel_rfl) _ _ w.heap.size _ _ _ _ rfl hu.out.1 Try.underlying27 rfl (by kernel_rfl)) rfl ?_
      exact ⟨congrArg Ending.returned HA.out.symm, hu.out.2⟩

end Go.Proofs.Ytpnfhcpapjomnaa
