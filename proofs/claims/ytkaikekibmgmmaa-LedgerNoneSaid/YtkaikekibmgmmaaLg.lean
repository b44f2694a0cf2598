/- The ledger, plain: what is used on a path; all of it counted. -/
import Derived.Test.YtkaikekibmgmmaaGd
namespace Go.Proofs.Ytkaikekibmgmmaa
open Go.RowKit
set_option linter.unusedVariables false

namespace Lg
open Qt
/-- Each node on the way gets another amount. -/
def upd (g : V3 → V3) : List Int → List V3 → List V3
  | [], l => l
  | n :: p, l => upd g p (l.set n.toNat (g (ath l n)))
theorem upd_len (g : V3 → V3) : ∀ (p : List Int) (l : List V3), (upd g p l).length = l.length
  | [], l => rfl
  | n :: p, l => by rw [upd, upd_len g p, List.length_set]
theorem ath_set {l : List V3} {n b : Int} (h : 0 ≤ n ∧ n < l.length) (v : V3) : ath (l.set n.toNat v) b = if b = n then v else ath l b := by
  unfold ath
  rw [List.length_set]
  by_cases e : b = n
  · subst e
    rw [if_pos h, if_pos rfl, List.getD_eq_getElem?_getD, List.getElem?_set, if_pos rfl, if_pos (by omega)]
    rfl
  · rw [if_neg e]
    by_cases hb : 0 ≤ b ∧ b < l.length
    · rw [if_pos hb, if_pos hb, List.getD_eq_getElem?_getD, List.getElem?_set, if_neg (by omega), ← List.getD_eq_getElem?_getD]
    · rw [if_neg hb, if_neg hb]
theorem upd_ath (g : V3 → V3) : ∀ (p : List Int) (l : List V3), (∀ n ∈ p, 0 ≤ n ∧ n < (l.length : Int)) → p.Pairwise (· < ·) → ∀ b, ath (upd g p l) b = if b ∈ p then g (ath l b) else ath l b
  | [], l, _, _, b => by rw [upd, if_neg (by simp)]
  | n :: p, l, hr, hp, b => by
    rw [List.pairwise_cons] at hp
    have ih := upd_ath g p (l.set n.toNat (g (ath l n))) (fun m hm => by rw [List.length_set]; exact hr m (by simp [hm])) hp.2 b
    rw [upd, ih, ath_set (hr n (by simp))]
    by_cases e : b = n
    · subst e
      have hn : b ∉ p := fun h => by have := hp.1 b h; omega
      rw [if_neg hn, if_pos rfl, if_pos (by simp)]
    · by_cases hb : b ∈ p
      · rw [if_pos hb, if_neg e, if_pos (by simp [hb])]
      · rw [if_neg hb, if_neg e, if_neg (by simp [e, hb])]

theorem path_sorted (ns : List Nd) : ∀ (f : Nat) (n : Int) (l : List Int), (∀ x ∈ l, n < x) → l.Pairwise (· < ·) → (pathTo ns f n l).Pairwise (· < ·)
  | 0, n, l, _, hp => hp
  | f + 1, n, l, hl, hp => by
    have h1 : (n :: l).Pairwise (· < ·) := List.pairwise_cons.2 ⟨hl, hp⟩
    rw [pathTo]
    split
    · split
      · exact h1
      · refine path_sorted ns f _ _ (fun x hx => ?_) h1
        rcases List.mem_cons.1 hx with rfl | h
        · omega
        · have := hl x h; omega
    · exact hp
theorem path_in (ns : List Nd) : ∀ (f : Nat) (n : Int) (l : List Int), (∀ x ∈ l, 0 ≤ x ∧ x < (ns.length : Int)) → ∀ x ∈ pathTo ns f n l, 0 ≤ x ∧ x < (ns.length : Int)
  | 0, n, l, hl, x, hx => hl x hx
  | f + 1, n, l, hl, x, hx => by
    rw [pathTo] at hx
    split at hx
    · rename_i h
      have h1 : ∀ x ∈ n :: l, 0 ≤ x ∧ x < (ns.length : Int) := fun y hy => by
        rcases List.mem_cons.1 hy with rfl | q
        · exact h
        · exact hl y q
      split at hx
      · exact h1 x hx
      · exact path_in ns f _ _ h1 x hx
    · exact hl x hx
theorem path_keeps (ns : List Nd) : ∀ (f : Nat) (n : Int) (l : List Int), ∀ x ∈ l, x ∈ pathTo ns f n l
  | 0, n, l, x, hx => hx
  | f + 1, n, l, x, hx => by
    rw [pathTo]
    split
    · split
      · simp [hx]
      · exact path_keeps ns f _ _ x (by simp [hx])
    · exact hx
theorem path_self {ns : List Nd} {n : Int} (h : 0 ≤ n ∧ n < ns.length) : n ∈ path ns n := by
  unfold path
  rw [show (n + 1).toNat = n.toNat + 1 by omega, pathTo, if_pos h]
  split
  · simp
  · exact path_keeps ns _ _ _ n (by simp)
theorem par_no_leaf {ns : List Nd} {n : Int} (h : 0 ≤ n ∧ n < ns.length) : Cf.leaf ns (nd ns n).par = false := by
  have hm : nd ns n ∈ ns := List.mem_of_getElem? (node_in h)
  rw [Cf.leaf]
  have : (ns.all fun x => decide (x.par ≠ (nd ns n).par)) = false := by
    rw [List.all_eq_false]
    exact ⟨_, hm, by simp⟩
  rw [this, Bool.and_false]
theorem path_leaf (ns : List Nd) : ∀ (f : Nat) (n : Int) (l : List Int), ∀ x ∈ pathTo ns f n l, x ∈ l ∨ x = n ∨ Cf.leaf ns x = false
  | 0, n, l, x, hx => .inl hx
  | f + 1, n, l, x, hx => by
    rw [pathTo] at hx
    split at hx
    · rename_i h
      split at hx
      · rcases List.mem_cons.1 hx with rfl | q
        · exact .inr (.inl rfl)
        · exact .inl q
      · rcases path_leaf ns f _ _ x hx with q | rfl | q
        · rcases List.mem_cons.1 q with rfl | q
          · exact .inr (.inl rfl)
          · exact .inl q
        · exact .inr (.inr (par_no_leaf h))
        · exact .inr (.inr q)
    · exact .inl hx
theorem leaf_path {ns : List Nd} {b t : Int} (hb : Cf.leaf ns b = true) : b ∈ path ns t ↔ b = t := by
  constructor
  · intro h
    rcases path_leaf ns _ _ _ b h with q | q | q
    · simp at q
    · exact q
    · rw [hb] at q; cases q
  · rintro rfl
    exact path_self (leaf_in hb)
theorem on_iff {ns : List Nd} {n t : Int} : on ns n t = true ↔ n ∈ path ns t := by
  unfold on
  rw [List.any_eq_true]
  constructor
  · rintro ⟨x, hx, e⟩
    obtain rfl : x = n := by simpa using e
    exact hx
  · exact fun h => ⟨n, h, by simp⟩

/-- Take, Give: what all use then, and the error. -/
def take (ns : List Nd) (l : List V3) (t : Int) (v : V3) : List V3 × Int :=
  if Cf.valid v = false then (l, 1) else if Cf.leaf ns t = false then (l, 3) else (upd (fun u => add u v) (path ns t) l, 0)
def give (ns : List Nd) (l : List V3) (t : Int) (v : V3) : List V3 × Int :=
  if Cf.valid v = false then (l, 1) else if Cf.leaf ns t = false then (if Cf.fits v z3 = false then (l, 1) else (l, 3)) else if Cf.fits v (ath l t) = false then (l, 1) else (upd (fun u => sub u v) (path ns t) l, 0)

/-- All is counted, by one of the three numbers. -/
def Ok1 (ns : List Nd) (l : List V3) (M : Int) (f : V3 → Int) : Prop :=
  (∀ b, 0 ≤ f (ath l b) ∧ f (ath l b) ≤ M) ∧ ∀ n : Int, 0 ≤ n ∧ n < ns.length → f (ath l n) = tot (fun b => f (ath l b)) (below ns n)
def Ok (ns : List Nd) (l : List V3) (M : Int) : Prop := l.length = ns.length ∧ Ok1 ns l M (·.x) ∧ Ok1 ns l M (·.y) ∧ Ok1 ns l M (·.z)
theorem sub1_in {a b : Int} (a0 : 0 ≤ a) (a1 : a ≤ 1099511627776) (b0 : 0 ≤ b) (b1 : b ≤ 1099511627776) : sub1 a b = a - b := by
  rw [sub1, far_in (n := a) (by omega) (by omega), far_in (n := b) (by omega) (by omega), far_in (by omega) (by omega)]
theorem tot_mem {g : Int → Int} {t : Int} : ∀ {r : List Int}, (∀ b ∈ r, 0 ≤ g b) → t ∈ r → g t ≤ tot g r
  | b :: r, h, ht => by
    have h0 := h b (by simp)
    have h1 : 0 ≤ tot g r := by
      have : tot (fun _ => 0) r ≤ tot g r := tot_le (fun c hc => h c (by simp [hc]))
      have e : ∀ r : List Int, tot (fun _ => 0) r = 0 := fun r => by
        induction r with
        | nil => rfl
        | cons a r ih => rw [tot, ih]; rfl
      rw [e] at this
      exact this
    rw [tot]
    rcases List.mem_cons.1 ht with rfl | q
    · omega
    · have := tot_mem (r := r) (fun c hc => h c (by simp [hc])) q
      omega

theorem ok1_upd {ns : List Nd} {l : List V3} {M N : Int} {f : V3 → Int} {g : V3 → V3} {t d : Int} (hl : l.length = ns.length) (ho : Ok1 ns l M f) (ht : Cf.leaf ns t = true) (hg : ∀ b ∈ path ns t, f (g (ath l b)) = f (ath l b) + d)
    (hM : M ≤ N) (hb : ∀ b ∈ path ns t, 0 ≤ f (ath l b) + d ∧ f (ath l b) + d ≤ N) : Ok1 ns (upd g (path ns t) l) N f := by
  have hp : (path ns t).Pairwise (· < ·) := path_sorted ns _ _ _ (by simp) List.Pairwise.nil
  have hi : ∀ n ∈ path ns t, 0 ≤ n ∧ n < (l.length : Int) := fun n hn => by rw [hl]; exact path_in ns _ _ _ (by simp) n hn
  have e : ∀ b, f (ath (upd g (path ns t) l) b) = if b ∈ path ns t then f (ath l b) + d else f (ath l b) := fun b => by
    rw [upd_ath g _ _ hi hp]
    split
    · exact hg b (by assumption)
    · rfl
  refine ⟨fun b => ?_, fun n hn => ?_⟩
  · rw [e]
    split
    · exact hb b (by assumption)
    · have := ho.1 b; omega
  · rw [e]
    by_cases hnp : n ∈ path ns t
    · rw [if_pos hnp, ho.2 n hn, ← tot_one (d := d) (below_sorted ns n) (mem_below.2 ⟨ht, on_iff.2 hnp⟩)]
      refine tot_congr fun b hb' => ?_
      have hlf := (mem_below.1 hb').1
      rw [e]
      by_cases q : b = t
      · rw [if_pos q, if_pos ((leaf_path hlf).2 q)]
      · rw [if_neg q, if_neg (fun h => q ((leaf_path hlf).1 h))]
    · rw [if_neg hnp, ho.2 n hn]
      refine tot_congr fun b hb' => ?_
      obtain ⟨hlf, hon⟩ := mem_below.1 hb'
      have q : b ≠ t := fun h => hnp (on_iff.1 (h ▸ hon))
      rw [e, if_neg (fun h => q ((leaf_path hlf).1 h))]
theorem ok_zero (ns : List Nd) : Ok ns (List.replicate ns.length z3) 0 := by
  have e : ∀ b, ath (List.replicate ns.length z3) b = z3 := fun b => by
    unfold ath
    split
    · rw [List.getD_eq_getElem?_getD, List.getElem?_replicate]
      split <;> rfl
    · rfl
  have z : ∀ r : List Int, tot (fun _ => 0) r = 0 := fun r => by
    induction r with
    | nil => rfl
    | cons a r ih => rw [tot, ih]; rfl
  refine ⟨by simp, ⟨fun b => ?_, fun n _ => ?_⟩, ⟨fun b => ?_, fun n _ => ?_⟩, ⟨fun b => ?_, fun n _ => ?_⟩⟩ <;> simp only [e] <;> first | (show (0 : Int) = tot (fun _ => 0) _; rw [z]) | (show (0 : Int) ≤ 0 ∧ (0 : Int) ≤ 0; omega)
theorem ok_take {ns : List Nd} {l : List V3} {M : Int} {t : Int} {v : V3} (h : Ok ns l M) (hM : M + 1048576 ≤ 1099511627776) (hv : Cf.valid v = true) (ht : Cf.leaf ns t = true) : Ok ns (upd (fun u => add u v) (path ns t) l) (M + 1048576) := by
  have hv' := (valid_iff v).1 hv
  obtain ⟨hl, h1, h2, h3⟩ := h
  obtain ⟨v1, v2, v3⟩ := hv'
  unfold ok1 at v1 v2 v3
  refine ⟨by rw [upd_len, hl], ?_, ?_, ?_⟩
  · exact ok1_upd (d := v.x) hl h1 ht (fun b _ => by have k : 0 ≤ (ath l b).x ∧ (ath l b).x ≤ M := h1.1 b; exact add1_in (by omega) (by omega) (by omega)) (by omega) (fun b _ => by have k : 0 ≤ (ath l b).x ∧ (ath l b).x ≤ M := h1.1 b; show 0 ≤ (ath l b).x + v.x ∧ (ath l b).x + v.x ≤ _; omega)
  · exact ok1_upd (d := v.y) hl h2 ht (fun b _ => by have k : 0 ≤ (ath l b).y ∧ (ath l b).y ≤ M := h2.1 b; exact add1_in (by omega) (by omega) (by omega)) (by omega) (fun b _ => by have k : 0 ≤ (ath l b).y ∧ (ath l b).y ≤ M := h2.1 b; show 0 ≤ (ath l b).y + v.y ∧ (ath l b).y + v.y ≤ _; omega)
  · exact ok1_upd (d := v.z) hl h3 ht (fun b _ => by have k : 0 ≤ (ath l b).z ∧ (ath l b).z ≤ M := h3.1 b; exact add1_in (by omega) (by omega) (by omega)) (by omega) (fun b _ => by have k : 0 ≤ (ath l b).z ∧ (ath l b).z ≤ M := h3.1 b; show 0 ≤ (ath l b).z + v.z ∧ (ath l b).z + v.z ≤ _; omega)
theorem ok1_above {ns : List Nd} {l : List V3} {M : Int} {f : V3 → Int} {t b : Int} (ho : Ok1 ns l M f) (ht : Cf.leaf ns t = true) (hb : b ∈ path ns t) : f (ath l t) ≤ f (ath l b) := by
  rw [ho.2 b (path_in ns _ _ _ (by simp) b hb)]
  exact tot_mem (g := fun b => f (ath l b)) (fun c _ => (ho.1 c).1) (mem_below.2 ⟨ht, on_iff.2 hb⟩)
theorem ok_give {ns : List Nd} {l : List V3} {M : Int} {t : Int} {v : V3} (h : Ok ns l M) (hM : M ≤ 1099511627776) (hv : Cf.valid v = true) (ht : Cf.leaf ns t = true) (hf : Cf.fits v (ath l t) = true) : Ok ns (upd (fun u => sub u v) (path ns t) l) M := by
  have hv' := (valid_iff v).1 hv
  obtain ⟨hl, h1, h2, h3⟩ := h
  obtain ⟨v1, v2, v3⟩ := hv'
  unfold ok1 at v1 v2 v3
  obtain ⟨f1, f2, f3⟩ := (fits_iff _ _).1 hf
  refine ⟨by rw [upd_len, hl], ?_, ?_, ?_⟩
  · exact ok1_upd (d := -v.x) hl h1 ht (fun b _ => by have k : 0 ≤ (ath l b).x ∧ (ath l b).x ≤ M := h1.1 b; have e : sub1 (ath l b).x v.x = _ := sub1_in (by omega) (by omega) (by omega) (by omega); show sub1 (ath l b).x v.x = (ath l b).x + -v.x; omega) (by omega) (fun b hb => by have k : 0 ≤ (ath l b).x ∧ (ath l b).x ≤ M := h1.1 b; have q : (ath l t).x ≤ (ath l b).x := ok1_above h1 ht hb; show 0 ≤ (ath l b).x + -v.x ∧ (ath l b).x + -v.x ≤ M; omega)
  · exact ok1_upd (d := -v.y) hl h2 ht (fun b _ => by have k : 0 ≤ (ath l b).y ∧ (ath l b).y ≤ M := h2.1 b; have e : sub1 (ath l b).y v.y = _ := sub1_in (by omega) (by omega) (by omega) (by omega); show sub1 (ath l b).y v.y = (ath l b).y + -v.y; omega) (by omega) (fun b hb => by have k : 0 ≤ (ath l b).y ∧ (ath l b).y ≤ M := h2.1 b; have q : (ath l t).y ≤ (ath l b).y := ok1_above h2 ht hb; show 0 ≤ (ath l b).y + -v.y ∧ (ath l b).y + -v.y ≤ M; omega)
  · exact ok1_upd (d := -v.z) hl h3 ht (fun b _ => by have k : 0 ≤ (ath l b).z ∧ (ath l b).z ≤ M := h3.1 b; have e : sub1 (ath l b).z v.z = _ := sub1_in (by omega) (by omega) (by omega) (by omega); show sub1 (ath l b).z v.z = (ath l b).z + -v.z; omega) (by omega) (fun b hb => by have k : 0 ≤ (ath l b).z ∧ (ath l b).z ≤ M := h3.1 b; have q : (ath l t).z ≤ (ath l b).z := ok1_above h3 ht hb; show 0 ≤ (ath l b).z + -v.z ∧ (ath l b).z + -v.z ≤ M; omega)
theorem ok_more {ns : List Nd} {l : List V3} {M N : Int} (h : Ok ns l M) (hN : M ≤ N) : Ok ns l N :=
  ⟨h.1, ⟨fun b => ⟨(h.2.1.1 b).1, by have := h.2.1.1 b; omega⟩, h.2.1.2⟩, ⟨fun b => ⟨(h.2.2.1.1 b).1, by have := h.2.2.1.1 b; omega⟩, h.2.2.1.2⟩, ⟨fun b => ⟨(h.2.2.2.1 b).1, by have := h.2.2.2.1 b; omega⟩, h.2.2.2.2⟩⟩
theorem take_ok {ns : List Nd} {l : List V3} {M : Int} (t : Int) (v : V3) (h : Ok ns l M) (hM : M + 1048576 ≤ 1099511627776) : Ok ns (take ns l t v).1 (M + 1048576) := by
  unfold take
  split
  · exact ok_more h (by omega)
  · split
    · exact ok_more h (by omega)
    · exact ok_take h hM (by simp_all) (by simp_all)
theorem give_ok {ns : List Nd} {l : List V3} {M : Int} (t : Int) (v : V3) (h : Ok ns l M) (hM : M ≤ 1099511627776) : Ok ns (give ns l t v).1 M := by
  unfold give
  split
  · exact h
  · split
    · split <;> exact h
    · split
      · exact h
      · exact ok_give h hM (by simp_all) (by simp_all) (by simp_all)

/-- What a cohort uses is what all below it use, together. -/
theorem sum_of {c : Cmd} {l : List V3} {M : Int} (hc : Cf.check c = 0) (h : Ok c.nodes l M) (hM0 : 0 ≤ M) (hM : M ≤ 1048576000) {n : Int} (hn : 0 ≤ n ∧ n < c.nodes.length) : Qt.sum c.nodes n l = ath l n ∧ Cf.fits z3 (ath l n) = true := by
  have hlen := below_few c.nodes n
  have h12 := check_few hc
  have k : ∀ f : V3 → Int, (∀ u v, f (add u v) = add1 (f u) (f v)) → f z3 = 0 → Ok1 c.nodes l M f → f (Qt.sum c.nodes n l) = f (ath l n) := fun f hf hz ho => by
    have hm : ((below c.nodes n).length : Int) * M ≤ 12 * M := Int.mul_le_mul_of_nonneg_right (by omega) hM0
    have e := sumL_tot l f hf M (below c.nodes n) z3 (fun b _ => ho.1 b) (by rw [hz]; omega) (by rw [hz]; omega) hM0
    change f (Qt.sum c.nodes n l) = _ at e
    rw [e, hz, ho.2 n hn, Int.zero_add]
  obtain ⟨_, h1, h2, h3⟩ := h
  have e1 := k (·.x) (fun _ _ => rfl) rfl h1
  have e2 := k (·.y) (fun _ _ => rfl) rfl h2
  have e3 := k (·.z) (fun _ _ => rfl) rfl h3
  refine ⟨?_, (fits_iff _ _).2 ⟨(h1.1 n).1, (h2.1 n).1, (h3.1 n).1⟩⟩
  revert e1 e2 e3
  generalize Qt.sum c.nodes n l = s
  generalize ath l n = u
  obtain ⟨_, _, _⟩ := s
  obtain ⟨_, _, _⟩ := u
  simp only
  rintro rfl rfl rfl
  rfl

theorem list_ath {l m : List V3} (hl : l.length = m.length) (h : ∀ b : Int, 0 ≤ b ∧ b < l.length → ath l b = ath m b) : l = m := by
  apply List.ext_getElem hl
  intro i h1 h2
  have e := h i (by omega)
  unfold ath at e
  rw [if_pos (by omega), if_pos (by omega), List.getD_eq_getElem?_getD, List.getD_eq_getElem?_getD] at e
  simpa [h1, h2] using e
theorem add_sub {u v : V3} (hu : (0 ≤ u.x ∧ u.x ≤ 1048576000) ∧ (0 ≤ u.y ∧ u.y ≤ 1048576000) ∧ (0 ≤ u.z ∧ u.z ≤ 1048576000)) (hv : okv v) : sub (add u v) v = u := by
  obtain ⟨v1, v2, v3⟩ := hv
  unfold ok1 at v1 v2 v3
  obtain ⟨x, y, z⟩ := u
  obtain ⟨a, b, c⟩ := v
  simp only at hu v1 v2 v3
  unfold sub add
  simp only
  rw [add1_in (by omega) (by omega) (by omega), add1_in (by omega) (by omega) (by omega), add1_in (by omega) (by omega) (by omega), sub1_in (by omega) (by omega) (by omega) (by omega), sub1_in (by omega) (by omega) (by omega) (by omega), sub1_in (by omega) (by omega) (by omega) (by omega)]
  congr 1 <;> omega
/-- What was taken and given back leaves all as it was. -/
theorem take_give {ns : List Nd} {l : List V3} {M : Int} (t : Int) (v : V3) (h : Ok ns l M) (hM : M ≤ 1048576000 - 1048576) (h0 : (take ns l t v).2 = 0) : give ns (take ns l t v).1 t v = (l, 0) := by
  have hv : Cf.valid v = true := by
    cases q : Cf.valid v with
    | true => rfl
    | false => rw [take, if_pos q] at h0; cases h0
  have ht : Cf.leaf ns t = true := by
    cases q : Cf.leaf ns t with
    | true => rfl
    | false => rw [take, if_neg (by simp [hv]), if_pos q] at h0; cases h0
  have e : (take ns l t v).1 = upd (fun u => add u v) (path ns t) l := by rw [take, if_neg (by simp [hv]), if_neg (by simp [ht])]
  have hp : (path ns t).Pairwise (· < ·) := path_sorted ns _ _ _ (by simp) List.Pairwise.nil
  have hl := h.1
  have hi : ∀ n ∈ path ns t, 0 ≤ n ∧ n < (l.length : Int) := fun n hn => by rw [hl]; exact path_in ns _ _ _ (by simp) n hn
  have hok := (valid_iff v).1 hv
  have hb : ∀ b, (0 ≤ (ath l b).x ∧ (ath l b).x ≤ 1048576000) ∧ (0 ≤ (ath l b).y ∧ (ath l b).y ≤ 1048576000) ∧ (0 ≤ (ath l b).z ∧ (ath l b).z ≤ 1048576000) := fun b => by
    have h1 : 0 ≤ (ath l b).x ∧ (ath l b).x ≤ M := h.2.1.1 b
    have h2 : 0 ≤ (ath l b).y ∧ (ath l b).y ≤ M := h.2.2.1.1 b
    have h3 : 0 ≤ (ath l b).z ∧ (ath l b).z ≤ M := h.2.2.2.1 b
    omega
  have hft : Cf.fits v (ath (upd (fun u => add u v) (path ns t) l) t) = true := by
    rw [upd_ath _ _ _ hi hp, if_pos ((leaf_path ht).2 rfl), fits_iff]
    obtain ⟨v1, v2, v3⟩ := hok
    unfold ok1 at v1 v2 v3
    obtain ⟨b1, b2, b3⟩ := hb t
    refine ⟨?_, ?_, ?_⟩
    · show v.x ≤ add1 _ _; rw [add1_in (by omega) (by omega) (by omega)]; omega
    · show v.y ≤ add1 _ _; rw [add1_in (by omega) (by omega) (by omega)]; omega
    · show v.z ≤ add1 _ _; rw [add1_in (by omega) (by omega) (by omega)]; omega
  rw [e, give, if_neg (by simp [hv]), if_neg (by simp [ht]), if_neg (by simp [hft])]
  congr 1
  refine list_ath (by rw [upd_len, upd_len]) (fun b hb' => ?_)
  rw [upd_ath _ _ _ (fun n hn => by rw [upd_len]; exact hi n hn) hp, upd_ath _ _ _ hi hp]
  by_cases q : b ∈ path ns t
  · rw [if_pos q, if_pos q]; exact add_sub (hb b) hok
  · rw [if_neg q, if_neg q]
end Lg
end Go.Proofs.Ytkaikekibmgmmaa
