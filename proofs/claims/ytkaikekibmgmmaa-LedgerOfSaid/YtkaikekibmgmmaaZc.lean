/- KqG KqH KqV KqI: joined. -/
import Derived.Test.YtkaikekibmgmmaaZb
import Derived.Test.YtkaikekibmgmmaaGd
namespace Go.Proofs.Ytkaikekibmgmmaa
open Go Go.RowKit Go.Shelf
set_option linter.unusedVariables false
attribute [local go_sem] Oper.semAt_some

/-- A row of one's own as a slice that lies at or beyond its base. -/
theorem own_slice_up {w : World} {base : Nat} {v : Value} {l : List Int} (h : w.ownsRow base 3 1 v l.length (cellsOf iC l)) : ∃ ao cap bb, v = .slice ao l.length cap ∧ Sl iC 68 1 w ao cap bb 0 l ∧ (0 < l.length → base ≤ bb) := by
  obtain ⟨ao, cap, bb, e1, s1⟩ := own_slice iC 68 (k := 1) (fun x => rfl) h (fun b len cap i hi w0 => int_index b len cap i hi w0)
  refine ⟨ao, cap, bb, e1, s1, fun h0 => ?_⟩
  subst e1
  rcases h.2 with ⟨q, hn⟩ | ⟨g, cap', cur, q, hb, hg, _⟩
  · omega
  · simp only [Value.slice.injEq] at q
    obtain ⟨rfl, _, rfl⟩ := q
    have h1 := s1.idx 0 h0 w
    rw [int_index g l.length cap 0 h0 w] at h1
    simp only [Result.ok.injEq, Value.pointer.injEq, Option.some.injEq, Addr.mk.injEq] at h1
    omega

namespace Qt
/-- Those of the first j tenants that are below n. -/
def belTo (ns : List Nd) (n : Int) (j : Nat) : List Int := ((Cf.leaves ns).take j).filter fun t => on ns n t
theorem belTo_yes {ns : List Nd} {n : Int} {j : Nat} {x : Int} (hx : (Cf.leaves ns)[j]? = some x) (h : on ns n x = true) : belTo ns n (j + 1) = belTo ns n j ++ [x] := by
  unfold belTo
  rw [List.take_add_one, hx, List.filter_append]
  simp [h]
theorem belTo_no {ns : List Nd} {n : Int} {j : Nat} {x : Int} (hx : (Cf.leaves ns)[j]? = some x) (h : on ns n x = false) : belTo ns n (j + 1) = belTo ns n j := by
  unfold belTo
  rw [List.take_add_one, hx, List.filter_append]
  simp [h]
theorem belTo_all (ns : List Nd) (n : Int) : belTo ns n (Cf.leaves ns).length = below ns n := by unfold belTo below; rw [List.take_length]
theorem belTo_pre (ns : List Nd) (n : Int) (j : Nat) : belTo ns n j <+: below ns n := (List.take_prefix j _).filter _
end Qt

end Go.Proofs.Ytkaikekibmgmmaa
namespace Go.Proofs.Ytkaikekibmgmmaa
open Go Go.RowKit Go.Shelf
set_option linter.unusedVariables false
attribute [local go_sem] Oper.semAt_some

end Go.Proofs.Ytkaikekibmgmmaa
namespace Go.Proofs.Ytkaikekibmgmmaa
open Go.RowKit
set_option linter.unusedVariables false

namespace Kq
theorem cut_minmax (b n : Int) (h : 0 ≤ b) : min (max n (-b)) b = Qt.cutb b n := by unfold Qt.cutb; (repeat' split) <;> omega

set_option maxHeartbeats 400000 in
theorem within_any (n b : Int) (b0 : 0 ≤ b) (b1 : b ≤ 9223372036854775807) (w : World) :
    Calls Try.prog 51 #[.int .i64 n, .int .i64 b] w fun e w' => e = .returned (.int .i64 (Qt.cutb b n)) ∧ w = w' := by
  have h := cut_minmax b n b0
  have H := Lib.hid h; clear h
  go_enter Try.func51, Try.ntmps51
  go_wp2_with fail
  go_ret
  exact ⟨ret_i64 H.out, rfl⟩

set_option maxHeartbeats 400000 in
theorem cut_any (n : Int) (w : World) :
    Calls Try.prog 47 #[.int .i64 n] w fun e w' => e = .returned (.int .i64 (Qt.far n)) ∧ w = w' := by
  go_enter Try.func47, Try.ntmps47
  go_wp2_with fail
  refine (within_any _ _ (by decide) (by decide) _).mono ?_
  rintro e w' ⟨rfl, rfl⟩
  go_wp2_with fail
  go_ret
  exact ⟨rfl, rfl⟩

set_option maxHeartbeats 400000 in
theorem addOne_any (r : Nat) (hr : r < 3) (A B S : Nat) (x y z : Int) (w : World) (hA : w.cell? ⟨A, r, none⟩ = some (.int .i64 x)) (hB : w.cell? ⟨B, r, none⟩ = some (.int .i64 y))
    (hS : w.cell? ⟨S, r, none⟩ = some (.int .i64 z)) (hf : w.frozen? ⟨S, r, none⟩ = false) :
    Calls Try.prog 49 #[.int .i64 (r : Int), .pointer (some ⟨A, 0, none⟩), .pointer (some ⟨B, 0, none⟩), .pointer (some ⟨S, 0, none⟩)] w fun e w' => e = .returned (.tuple #[]) ∧ w' = w.drew.setCell ⟨S, r, none⟩ (.int .i64 (Qt.add1 x y)) := by
  have hx := Qt.far_range x
  have hy := Qt.far_range y
  have r3 : (r : Int) < 3 := by omega
  have hw : IntKind.i64.wrap (Qt.far x + Qt.far y) = Qt.far x + Qt.far y := IntWalk.i64_in _ (by omega)
  go_enter Try.func49, Try.ntmps49
  go_wp2_with fail
  refine wp_region_still_tail 12 (by kernel_rfl) (by kernel_rfl) ?_
  simp only [List.take_succ_cons, List.take_zero, List.drop_succ_cons, List.drop_zero]
  repeat (first | (with_reducible refine wpStill_step (fun K hK => ?_); go_simp; (first | ((with_reducible refine hK _ ?_); clear hK K) | ((with_reducible refine ⟨_, still_of (cut_any _ _), hK _ ?_⟩); clear hK K))))
  refine wpStill_nil ?_
  change wpList _ _ _ _ _ w.drew
  go_wp2
  go_end0
  exact ⟨rfl, rfl⟩

set_option maxHeartbeats 400000 in
theorem subOne_any (r : Nat) (hr : r < 3) (A B S : Nat) (x y z : Int) (w : World) (hA : w.cell? ⟨A, r, none⟩ = some (.int .i64 x)) (hB : w.cell? ⟨B, r, none⟩ = some (.int .i64 y))
    (hS : w.cell? ⟨S, r, none⟩ = some (.int .i64 z)) (hf : w.frozen? ⟨S, r, none⟩ = false) :
    Calls Try.prog 46 #[.int .i64 (r : Int), .pointer (some ⟨A, 0, none⟩), .pointer (some ⟨B, 0, none⟩), .pointer (some ⟨S, 0, none⟩)] w fun e w' => e = .returned (.tuple #[]) ∧ w' = w.drew.setCell ⟨S, r, none⟩ (.int .i64 (Qt.sub1 x y)) := by
  have hx := Qt.far_range x
  have hy := Qt.far_range y
  have r3 : (r : Int) < 3 := by omega
  have hw : IntKind.i64.wrap (Qt.far x - Qt.far y) = Qt.far x - Qt.far y := IntWalk.i64_in _ (by omega)
  go_enter Try.func46, Try.ntmps46
  go_wp2_with fail
  refine wp_region_still_tail 12 (by kernel_rfl) (by kernel_rfl) ?_
  simp only [List.take_succ_cons, List.take_zero, List.drop_succ_cons, List.drop_zero]
  repeat (first | (with_reducible refine wpStill_step (fun K hK => ?_); go_simp; (first | ((with_reducible refine hK _ ?_); clear hK K) | ((with_reducible refine ⟨_, still_of (cut_any _ _), hK _ ?_⟩); clear hK K))))
  refine wpStill_nil ?_
  change wpList _ _ _ _ _ w.drew
  go_wp2
  go_end0
  exact ⟨rfl, rfl⟩

/-- The first r numbers of s, then 0. -/
def upto (r : Nat) (s : V3) (i : Nat) : Int := if i < r then s.at_ i else 0
def Filled (V : World) (s : V3) (r : Nat) (w : World) : Prop := ∃ n, w = (V.alloc (.cells #[.int .i64 (upto r s 0), .int .i64 (upto r s 1), .int .i64 (upto r s 2)] 35)).drewN n
theorem filled_step (V : World) (s : V3) (r : Nat) (hr : r < 3) (n : Nat) :
    Filled V s (r + 1) (((V.alloc (.cells #[.int .i64 (upto r s 0), .int .i64 (upto r s 1), .int .i64 (upto r s 2)] 35)).drewN n).drew.setCell ⟨V.heap.size, r, none⟩ (.int .i64 (s.at_ r))) := by
  refine ⟨n + 1, ?_⟩
  have h := World.setCell_alloc_at (w := V) #[.int .i64 (upto r s 0), .int .i64 (upto r s 1), .int .i64 (upto r s 2)] 35 V.heap.size r (.int .i64 (s.at_ r)) rfl
  show ((V.alloc _).setCell _ _).drewN (n + 1) = _
  rw [h]
  have hk : r = 0 ∨ r = 1 ∨ r = 2 := by omega
  rcases hk with rfl | rfl | rfl <;> rfl

theorem each_two (k A B : Nat) (a b s : V3) (V : World) (S : Nat) (hS : V.heap.size = S) (hk : Enters k #[.pointer (some ⟨A, 0, none⟩), .pointer (some ⟨B, 0, none⟩), .pointer (some ⟨S, 0, none⟩)])
    (hA : A < V.heap.size) (hB : B < V.heap.size) (ca : ∀ r : Nat, r < 3 → V.cell? ⟨A, r, none⟩ = some (.int .i64 (a.at_ r))) (cb : ∀ r : Nat, r < 3 → V.cell? ⟨B, r, none⟩ = some (.int .i64 (b.at_ r)))
    (hc : ∀ (r : Nat) (z : Int) (w : World), r < 3 → w.cell? ⟨A, r, none⟩ = some (.int .i64 (a.at_ r)) → w.cell? ⟨B, r, none⟩ = some (.int .i64 (b.at_ r)) → w.cell? ⟨S, r, none⟩ = some (.int .i64 z) → w.frozen? ⟨S, r, none⟩ = false →
      Calls Try.prog k #[.int .i64 (r : Int), .pointer (some ⟨A, 0, none⟩), .pointer (some ⟨B, 0, none⟩), .pointer (some ⟨S, 0, none⟩)] w fun e w' => e = .returned (.tuple #[]) ∧ w' = w.drew.setCell ⟨S, r, none⟩ (.int .i64 (s.at_ r))) :
    Calls Try.prog 41 #[.func (.func k) #[] #[.pointer (some ⟨A, 0, none⟩), .pointer (some ⟨B, 0, none⟩), .pointer (some ⟨S, 0, none⟩)]] (V.alloc (.cells #[.int .i64 0, .int .i64 0, .int .i64 0] 35))
      (Kc.Drawn V #[.int .i64 s.x, .int .i64 s.y, .int .i64 s.z] 35) := by
  subst hS
  refine (each_any k _ hk (Filled V s) (fun r hr w hI => ?_) _ ⟨0, rfl⟩).mono fun e w' h => ⟨h.1, h.2⟩
  obtain ⟨n, rfl⟩ := hI
  have hS : ((V.alloc (.cells #[.int .i64 (upto r s 0), .int .i64 (upto r s 1), .int .i64 (upto r s 2)] 35)).drewN n).cell? ⟨V.heap.size, r, none⟩ = some (.int .i64 (upto r s r)) := by
    refine (World.cell?_alloc_at (w := V) _ _ _ r rfl).trans ?_
    have hk : r = 0 ∨ r = 1 ∨ r = 2 := by omega
    rcases hk with rfl | rfl | rfl <;> rfl
  refine (hc r _ _ hr ?_ ?_ hS ?_).mono ?_
  · exact (World.cell?_alloc_past (w := V) _ _ _ hA).trans (ca r hr)
  · exact (World.cell?_alloc_past (w := V) _ _ _ hB).trans (cb r hr)
  · exact World.frozen?_alloc_at (w := V) _ _ _ r rfl
  · rintro e w' ⟨rfl, rfl⟩
    exact ⟨rfl, filled_step V s r hr n⟩
end Kq

set_option maxHeartbeats 400000 in
theorem kAdd3 (u v : V3) (w : World) : Calls Try.prog 36 #[.agg #[.int .i64 u.x, .int .i64 u.y, .int .i64 u.z], .agg #[.int .i64 v.x, .int .i64 v.y, .int .i64 v.z]] w (RetBelow (.agg #[.int .i64 (Qt.add u v).x, .int .i64 (Qt.add u v).y, .int .i64 (Qt.add u v).z]) w) := by
  have hmf : ∀ (fn : Fn) (first cap : Array Value) (w : World), (Instr.makeFunc fn first cap).run Try.prog w = .ok (.func fn first cap) w := fun _ _ _ _ => rfl
  have ca := cells_three (((Holds.new w #[.int .i64 u.x, .int .i64 u.y, .int .i64 u.z] 35).kept (by simp) ((Below.refl _ _).alloc (Nat.le_refl _) (.cells #[.int .i64 v.x, .int .i64 v.y, .int .i64 v.z] 35))).kept (by simp; omega) ((Below.refl _ _).alloc (Nat.le_refl _) (.cells #[.int .i64 0, .int .i64 0, .int .i64 0] 35)))
  have cb := cells_three ((Holds.new (w.alloc (.cells #[.int .i64 u.x, .int .i64 u.y, .int .i64 u.z] 35)) #[.int .i64 v.x, .int .i64 v.y, .int .i64 v.z] 35).kept (by simp) ((Below.refl _ _).alloc (Nat.le_refl _) (.cells #[.int .i64 0, .int .i64 0, .int .i64 0] 35)))
  rw [World.size_alloc] at cb
  obtain ⟨s, hs⟩ : ∃ s, Qt.add u v = s := ⟨_, rfl⟩
  have hsk : ∀ k, s.at_ k = Qt.add1 (u.at_ k) (v.at_ k) := fun k => by rw [← hs]; exact Qt.add_at u v k
  rw [hs]
  have CA := Lib.hid ca; have CB := Lib.hid cb; have HK := Lib.hid hsk
  clear ca cb hs hsk
  go_enter Try.func36, Try.ntmps36
  go_wp2_with fail
  refine (Kq.each_two 49 w.heap.size (w.heap.size + 1) u v s
    (((w.alloc (.cells #[.int .i64 u.x, .int .i64 u.y, .int .i64 u.z] 35)).alloc (.cells #[.int .i64 v.x, .int .i64 v.y, .int .i64 v.z] 35)).alloc (.cells #[.int .i64 0, .int .i64 0, .int .i64 0] 35))
    (w.heap.size + 1 + 1 + 1) (by simp) (fun _ _ => rfl) (by simp; omega) (by simp) CA.out CB.out
    (fun r z w hr hA hB hS hf => by rw [HK.out]; exact Kq.addOne_any r hr _ _ _ _ _ z w hA hB hS hf)).mono ?_
  rintro e w' ⟨rfl, n, rfl⟩
  have hd := setCell_drewN
  go_wp2_with fail
  exact bodyPost_ret (results_cell_row (p := 4) (by kernel_rfl) _ _ (w.heap.size + 1 + 1) _ _ _ _ rfl (heap_second _ _ _ _ _ (by simp)) Try.underlying35 rfl (by kernel_rfl)) rfl ⟨rfl, below_drewN ((((((Below.refl _ w).alloc (Nat.le_refl _) _).alloc (by simp) _).alloc (by simp; omega) _).alloc (by simp; omega) _)) n⟩

theorem Qt.sub_at' (u v : V3) (k : Nat) : (Qt.sub u v).at_ k = Qt.sub1 (u.at_ k) (v.at_ k) := by
  match k with
  | 0 => rfl
  | 1 => rfl
  | k + 2 => rfl

set_option maxHeartbeats 400000 in
theorem kSub3 (u v : V3) (w : World) : Calls Try.prog 32 #[.agg #[.int .i64 u.x, .int .i64 u.y, .int .i64 u.z], .agg #[.int .i64 v.x, .int .i64 v.y, .int .i64 v.z]] w (RetBelow (.agg #[.int .i64 (Qt.sub u v).x, .int .i64 (Qt.sub u v).y, .int .i64 (Qt.sub u v).z]) w) := by
  have hmf : ∀ (fn : Fn) (first cap : Array Value) (w : World), (Instr.makeFunc fn first cap).run Try.prog w = .ok (.func fn first cap) w := fun _ _ _ _ => rfl
  have ca := cells_three (((Holds.new w #[.int .i64 u.x, .int .i64 u.y, .int .i64 u.z] 35).kept (by simp) ((Below.refl _ _).alloc (Nat.le_refl _) (.cells #[.int .i64 v.x, .int .i64 v.y, .int .i64 v.z] 35))).kept (by simp; omega) ((Below.refl _ _).alloc (Nat.le_refl _) (.cells #[.int .i64 0, .int .i64 0, .int .i64 0] 35)))
  have cb := cells_three ((Holds.new (w.alloc (.cells #[.int .i64 u.x, .int .i64 u.y, .int .i64 u.z] 35)) #[.int .i64 v.x, .int .i64 v.y, .int .i64 v.z] 35).kept (by simp) ((Below.refl _ _).alloc (Nat.le_refl _) (.cells #[.int .i64 0, .int .i64 0, .int .i64 0] 35)))
  rw [World.size_alloc] at cb
  obtain ⟨s, hs⟩ : ∃ s, Qt.sub u v = s := ⟨_, rfl⟩
  have hsk : ∀ k, s.at_ k = Qt.sub1 (u.at_ k) (v.at_ k) := fun k => by rw [← hs]; exact Qt.sub_at' u v k
  rw [hs]
  have CA := Lib.hid ca; have CB := Lib.hid cb; have HK := Lib.hid hsk
  clear ca cb hs hsk
  go_enter Try.func32, Try.ntmps32
  go_wp2_with fail
  refine (Kq.each_two 46 w.heap.size (w.heap.size + 1) u v s
    (((w.alloc (.cells #[.int .i64 u.x, .int .i64 u.y, .int .i64 u.z] 35)).alloc (.cells #[.int .i64 v.x, .int .i64 v.y, .int .i64 v.z] 35)).alloc (.cells #[.int .i64 0, .int .i64 0, .int .i64 0] 35))
    (w.heap.size + 1 + 1 + 1) (by simp) (fun _ _ => rfl) (by simp; omega) (by simp) CA.out CB.out
    (fun r z w hr hA hB hS hf => by rw [HK.out]; exact Kq.subOne_any r hr _ _ _ _ _ z w hA hB hS hf)).mono ?_
  rintro e w' ⟨rfl, n, rfl⟩
  have hd := setCell_drewN
  go_wp2_with fail
  exact bodyPost_ret (results_cell_row (p := 4) (by kernel_rfl) _ _ (w.heap.size + 1 + 1) _ _ _ _ rfl (heap_second _ _ _ _ _ (by simp)) Try.underlying35 rfl (by kernel_rfl)) rfl ⟨rfl, below_drewN ((((((Below.refl _ w).alloc (Nat.le_refl _) _).alloc (by simp) _).alloc (by simp; omega) _).alloc (by simp; omega) _)) n⟩

end Go.Proofs.Ytkaikekibmgmmaa
namespace Go.Proofs.Ytkaikekibmgmmaa
open Go Go.RowKit Go.Shelf
set_option linter.unusedVariables false
attribute [local go_sem] Oper.semAt_some

namespace Qt
def vals {L : List Int} (l : List {x : Int // x ∈ L}) : List Int := l.map (·.1)
def In40 (v : V3) : Prop := far v.x = v.x ∧ far v.y = v.y ∧ far v.z = v.z
theorem far_far (n : Int) : far (far n) = far n := by have := far_range n; exact far_in this.1 this.2
theorem in40_add (u v : V3) : In40 (add u v) := ⟨far_far _, far_far _, far_far _⟩
theorem sumL_in40 (l : List V3) : ∀ (r : List Int) (v : V3), In40 v → In40 (sumL l v r)
  | [], v, h => h
  | b :: r, v, h => sumL_in40 l r _ (in40_add _ _)
theorem add_zero {v : V3} (h : In40 v) : add v z3 = v := by
  have e : ∀ a, far a = a → add1 a 0 = a := fun a ha => by
    unfold add1
    rw [show far 0 = 0 by decide, Int.add_zero, far_far, ha]
  obtain ⟨h1, h2, h3⟩ := h
  unfold add z3
  rw [e _ h1, e _ h2, e _ h3]
theorem ath_out {l : List V3} {n : Int} (h : (l.length : Int) ≤ n) : ath l n = z3 := by unfold ath; rw [if_neg (by omega)]
theorem ath_in {l : List V3} {n : Int} (h0 : 0 ≤ n) (h : n < l.length) : l[n.toNat]? = some (ath l n) := by
  unfold ath
  rw [if_pos ⟨h0, h⟩, List.getD_eq_getElem?_getD, List.getElem?_eq_getElem (by omega), Option.getD_some]
end Qt

theorem row_own {β : Type} (g : Nat) (cs : β → Array Value) (t : TypeId) : Own (fun s W => Row W g (cs s) t) := by
  rintro s A B row hs hg hr
  refine (hg.block g hs.lt (fun e => ?_)).trans hs
  obtain ⟨o, ho, hc⟩ := hr g e.symm
  rw [show A.heap[g]? = _ from hs] at ho
  cases ho; cases hc
theorem others_but {w w' : World} {g : Nat} {cs : Array Value} {t : TypeId} (hr : Row w g cs t) (h : But g w w') : KeepsOthers w w' :=
  ⟨h.size, fun k o hk ho => (h.block k (Array.getElem?_eq_some_iff.1 hk).1 (fun e => by
    subst e
    rw [show w.heap[k]? = _ from hr] at hk
    cases hk; cases ho)).trans hk⟩
theorem Kb.of_but {B : Nat} {w w' : World} (h : But B w w') (hp : ∀ v, w'.cell? ⟨B, 0, none⟩ = some v → v.ownBlock = none) : Kb B w w' :=
  ⟨h.os, h.tape, h.output, h.size, fun k o hk _ hB _ => (h.block k (Array.getElem?_eq_some_iff.1 hk).1 hB).trans hk, fun v' hv' => .inr fun k e => by rw [hp v' hv'] at e; cases e⟩
theorem row_putObj {w : World} {g : Nat} {cs : Array Value} {t : TypeId} (h : Row w g cs t) {l : Nat} {o : Obj} (o' : Obj) (hl : w.heap[l]? = some o) (ho : o.isCells = false) : Row (w.putObj l o') g cs t :=
  (row_own (β := Unit) g (fun _ => cs) t).putObj (s := ()) o' h hl ho

theorem set_three {w : World} {g : Nat} {x y z : Int} {t : TypeId} (h : Row w g #[.int .i64 x, .int .i64 y, .int .i64 z] t) (v : V3) :
    Row (((w.setCell ⟨g, 0, none⟩ (.int .i64 v.x)).setCell ⟨g, 1, none⟩ (.int .i64 v.y)).setCell ⟨g, 2, none⟩ (.int .i64 v.z)) g v.c t ∧ But g w (((w.setCell ⟨g, 0, none⟩ (.int .i64 v.x)).setCell ⟨g, 1, none⟩ (.int .i64 v.y)).setCell ⟨g, 2, none⟩ (.int .i64 v.z)) :=
  ⟨((h.set 0 (.int .i64 v.x)).set 1 (.int .i64 v.y)).set 2 (.int .i64 v.z), (((But.refl g w).setCell (p := ⟨g, 0, none⟩) (.inr rfl) _).setCell (p := ⟨g, 1, none⟩) (.inr rfl) _).setCell (p := ⟨g, 2, none⟩) (.inr rfl) _⟩

end Go.Proofs.Ytkaikekibmgmmaa
