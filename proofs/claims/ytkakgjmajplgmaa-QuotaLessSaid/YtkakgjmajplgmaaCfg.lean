/- Configurations: plainly; the plain answer's Valid, Fits. -/
import Derived.Test.YtkakgjmajplgmaaCmdT
import Derived.Test.YtkakgjmajplgmaaCmdW
namespace Go.Proofs.Ytkakgjmajplgmaa
open Go.RowKit
set_option linter.unusedVariables false

def V3.at_ (v : V3) : Nat → Int
  | 0 => v.x
  | 1 => v.y
  | _ => v.z
namespace Cf
def vd (x : Int) : Bool := decide (0 ≤ x) && decide (x ≤ 1048576)
def validTo (v : V3) : Nat → Bool
  | 0 => true
  | r + 1 => validTo v r && vd (v.at_ r)
def valid (v : V3) : Bool := validTo v 3
def fitsTo (a b : V3) : Nat → Bool
  | 0 => true
  | r + 1 => fitsTo a b r && decide (a.at_ r ≤ b.at_ r)
def fits (a b : V3) : Bool := fitsTo a b 3
def z3 : V3 := ⟨0, 0, 0⟩
/-- Is node n there, and nobody's Parent? -/
def leaf (ns : List Nd) (n : Int) : Bool := decide (0 ≤ n ∧ n < ns.length) && ns.all fun x => decide (x.par ≠ n)
/-- Node i's Parent and Weight. -/
def place (i : Int) (x : Nd) : Bool := !(decide (i = 0 ∧ x.par ≠ -1) || decide (0 < i ∧ (x.par < 0 ∨ i ≤ x.par)) || decide (x.wt < 1) || decide (1000 < x.wt))
def okNode (ns : List Nd) (i : Int) (x : Nd) : Bool :=
  place i x && (if leaf ns i = true then valid x.nom && valid x.bor && valid x.lend && fits x.lend x.nom else decide (x.nom = z3) && decide (x.bor = z3) && decide (x.lend = z3))
def okHost (h : Hs) : Bool := decide (0 ≤ h.fl ∧ h.fl ≤ 100) && decide (0 ≤ h.bl ∧ h.bl ≤ 100) && decide (0 ≤ h.ra ∧ h.ra ≤ 100) && valid h.cap
def allFrom (ns : List Nd) : Nat → List Nd → Bool
  | _, [] => true
  | i, x :: r => okNode ns i x && allFrom ns (i + 1) r
def frame (c : Cmd) : Bool := decide (1 ≤ c.nodes.length ∧ c.nodes.length ≤ 12) && decide (1 ≤ c.hosts.length ∧ c.hosts.length ≤ 24) && decide (1 ≤ c.half ∧ c.half ≤ 1048576) && decide (0 ≤ c.age ∧ c.age ≤ 1048576)
/-- A configuration is told by a command's fields of that name. -/
def check (c : Cmd) : Int := if (frame c && allFrom c.nodes 0 c.nodes && c.hosts.all okHost) = true then 0 else 2
def leaves (ns : List Nd) : List Int := ((List.range ns.length).map fun i : Nat => (i : Int)).filter (leaf ns)

theorem allFrom_iff (ns : List Nd) : ∀ (r : List Nd) (i : Nat), allFrom ns i r = true ↔ ∀ (k : Nat) x, r[k]? = some x → okNode ns ((i + k : Nat) : Int) x = true
  | [], i => by simp [allFrom]
  | y :: r, i => by
    rw [allFrom, Bool.and_eq_true, allFrom_iff ns r (i + 1)]
    constructor
    · rintro ⟨h1, h2⟩ k x hx
      cases k with
      | zero => simp at hx; subst hx; simpa using h1
      | succ k =>
        simp only [List.getElem?_cons_succ] at hx
        have := h2 k x hx
        rwa [show i + 1 + k = i + (k + 1) by omega] at this
    · intro h
      refine ⟨by simpa using h 0 y rfl, fun k x hx => ?_⟩
      have := h (k + 1) x (by simpa using hx)
      rwa [show i + (k + 1) = i + 1 + k by omega] at this
theorem check_iff (c : Cmd) : check c = 0 ↔ frame c = true ∧ (∀ (k : Nat) x, c.nodes[k]? = some x → okNode c.nodes (k : Int) x = true) ∧ c.hosts.all okHost = true := by
  unfold check
  have h := allFrom_iff c.nodes c.nodes 0
  simp only [Nat.zero_add] at h
  rw [← h]
  split
  · rename_i e
    simp only [Bool.and_eq_true] at e
    exact ⟨fun _ => ⟨e.1.1, e.1.2, e.2⟩, fun _ => rfl⟩
  · rename_i e
    constructor
    · intro h; omega
    · rintro ⟨h1, h2, h3⟩
      exact absurd (by simp [h1, h2, h3]) e
theorem check_two (c : Cmd) : check c = 0 ∨ check c = 2 := by unfold check; split <;> simp
theorem place_zero {x : Nd} (h : place 0 x = true) : x.par = -1 := by
  simp only [place, Bool.not_eq_true', Bool.or_eq_false_iff, decide_eq_false_iff_not] at h
  have := h.1.1.1
  simp at this
  exact this
theorem place_pos {i : Int} {x : Nd} (hi : 0 < i) (h : place i x = true) : 0 ≤ x.par ∧ x.par < i := by
  simp only [place, Bool.not_eq_true', Bool.or_eq_false_iff, decide_eq_false_iff_not] at h
  have := h.1.1.2
  omega
theorem okNode_place {ns : List Nd} {i : Int} {x : Nd} (h : okNode ns i x = true) : place i x = true := by
  unfold okNode at h
  rw [Bool.and_eq_true] at h
  exact h.1
/-- A node's Parent is no tenant. -/
theorem leaf_par {ns : List Nd} {k : Nat} {x : Nd} (h : ns[k]? = some x) : leaf ns x.par = false := by
  rw [leaf, Bool.and_eq_false_iff]
  right
  rw [List.all_eq_false]
  exact ⟨x, List.mem_of_getElem? h, by simp⟩
/-- The last node is a tenant. -/
theorem leaf_last {c : Cmd} (h : check c = 0) : leaf c.nodes ((c.nodes.length : Int) - 1) = true := by
  obtain ⟨hf, hn, _⟩ := (check_iff c).1 h
  simp only [frame, Bool.and_eq_true, decide_eq_true_eq] at hf
  have h1 := hf.1.1.1.1
  rw [leaf, Bool.and_eq_true]
  refine ⟨decide_eq_true (by omega), ?_⟩
  rw [List.all_eq_true]
  intro x hx
  obtain ⟨k, hk, e⟩ := List.mem_iff_getElem.1 hx
  have hp := okNode_place (hn k x (by rw [List.getElem?_eq_getElem hk, e]))
  rcases Nat.eq_zero_or_pos k with rfl | hk0
  · have := place_zero hp
    exact decide_eq_true (by omega)
  · have := place_pos (by omega) hp
    exact decide_eq_true (by omega)
theorem leaves_some {c : Cmd} (h : check c = 0) : 0 < (leaves c.nodes).length := by
  have hl := leaf_last h
  obtain ⟨hf, _, _⟩ := (check_iff c).1 h
  simp only [frame, Bool.and_eq_true, decide_eq_true_eq] at hf
  have h1 := hf.1.1.1.1
  apply List.length_pos_of_mem (a := ((c.nodes.length : Int) - 1))
  rw [leaves, List.mem_filter]
  refine ⟨List.mem_map.2 ⟨c.nodes.length - 1, List.mem_range.2 (by omega), by omega⟩, hl⟩
theorem validTo_no (v : V3) (k : Nat) (h : ¬ (0 ≤ v.at_ k ∧ v.at_ k ≤ 1048576)) (hk : k < 3) : valid v = false := by
  have e : vd (v.at_ k) = false := by unfold vd; simp; omega
  have hc : k = 0 ∨ k = 1 ∨ k = 2 := by omega
  unfold valid
  rcases hc with rfl | rfl | rfl <;> simp only [validTo, e, Bool.and_false, Bool.false_and]
theorem fitsTo_no (a b : V3) (k : Nat) (h : ¬ a.at_ k ≤ b.at_ k) (hk : k < 3) : fits a b = false := by
  have hc : k = 0 ∨ k = 1 ∨ k = 2 := by omega
  unfold fits
  rcases hc with rfl | rfl | rfl <;> simp [fitsTo, h]
end Cf

theorem cells_three {w : World} {b : Nat} {v : V3} (h : Holds w b #[.int .i64 v.x, .int .i64 v.y, .int .i64 v.z]) (k : Nat) (hk : k < 3) : w.cell? ⟨b, k, none⟩ = some (.int .i64 (v.at_ k)) := by
  have hc : k = 0 ∨ k = 1 ∨ k = 2 := by omega
  rcases hc with rfl | rfl | rfl <;> exact h _ _ rfl

set_option maxHeartbeats 400000 in
theorem rValid3 (v : V3) (w : World) : Calls Try.prog 7 #[.agg #[.int .i64 v.x, .int .i64 v.y, .int .i64 v.z]] w (RetBelow (.bool (Cf.valid v)) w) := by
  have hw := Holds.new w #[.int .i64 v.x, .int .i64 v.y, .int .i64 v.z] 29
  have ca := cells_three hw
  have g0 : Below w.heap.size w (w.alloc (.cells #[.int .i64 v.x, .int .i64 v.y, .int .i64 v.z] 29)) := (Below.refl _ _).alloc (Nat.le_refl _) _
  obtain ⟨F, hF⟩ : ∃ f, Cf.valid v = f := ⟨_, rfl⟩
  have hno := fun k h hk => Cf.validTo_no v k h hk
  have hyes : Cf.validTo v 3 = F := hF
  rw [hF] at hno ⊢
  have HNO := Lib.hid hno; have HY := Lib.hid hyes; have CA := Lib.hid ca
  clear hno hyes hw ca hF
  go_enter Try.func7, Try.ntmps7
  go_wp2_with fail
  obtain ⟨W, hW⟩ : ∃ W, w.alloc (.cells #[.int .i64 v.x, .int .i64 v.y, .int .i64 v.z] 29) = W := ⟨_, rfl⟩
  rw [hW] at g0 CA ⊢
  clear hW
  have G0 := Lib.hid g0; clear g0
  go_loopw [3] (fun i wr => ∃ j : Int, 0 ≤ j ∧ j ≤ 3 ∧ i = .int .i64 j ∧ Hid (Cf.validTo v j.toNat = true) ∧ wr = W) (fun i _ => 3 - (intOf i).toNat)
  case atStart => exact ⟨0, by omega, by omega, rfl, rfl, rfl⟩
  case round =>
    obtain ⟨j, hj0, hj3, rfl, hd, rfl⟩ := hrel
    by_cases hlt : j < 3
    · have hA := CA.out j.toNat (by omega)
      have HNJ := Lib.hid (fun h => HNO.out j.toNat h (by omega))
      obtain ⟨x, hx⟩ : ∃ x, v.at_ j.toNat = x := ⟨_, rfl⟩
      have HX := Lib.hid hx
      rw [hx] at hA HNJ
      clear hx
      by_cases hx0 : 0 ≤ x
      · by_cases hx1 : x ≤ 1048576
        · go_wp2_with fail
          go_roundw
          case rel => exact ⟨j + 1, by omega, by omega, rfl, by rw [show (j + 1).toNat = j.toNat + 1 by omega]; unfold Cf.validTo; rw [hd.out, HX.out, Cf.vd, decide_eq_true hx0, decide_eq_true hx1]; rfl, trivial⟩
          case measure => simp [intOf]; omega
        · have hf := HNJ.out (by omega)
          subst hf
          go_wp2_with fail
          go_ret
          exact ⟨rfl, G0.out⟩
      · have hf := HNJ.out (by omega)
        subst hf
        go_wp2_with fail
        go_ret
        exact ⟨rfl, G0.out⟩
    · obtain rfl : j = 3 := by omega
      have hf := HY.out.symm.trans hd.out
      subst hf
      go_wp2_with fail
      go_ret
      exact ⟨rfl, G0.out⟩

set_option maxHeartbeats 400000 in
theorem rFits3 (v u : V3) (w : World) : Calls Try.prog 13 #[.agg #[.int .i64 v.x, .int .i64 v.y, .int .i64 v.z], .agg #[.int .i64 u.x, .int .i64 u.y, .int .i64 u.z]] w (RetBelow (.bool (Cf.fits v u)) w) := by
  have ca := cells_three ((Holds.new w #[.int .i64 v.x, .int .i64 v.y, .int .i64 v.z] 29).kept (by simp) ((Below.refl _ _).alloc (Nat.le_refl _) (.cells #[.int .i64 u.x, .int .i64 u.y, .int .i64 u.z] 29)))
  have cb := cells_three (Holds.new (w.alloc (.cells #[.int .i64 v.x, .int .i64 v.y, .int .i64 v.z] 29)) #[.int .i64 u.x, .int .i64 u.y, .int .i64 u.z] 29)
  rw [World.size_alloc] at cb
  have g0 := two_below w (.cells #[.int .i64 v.x, .int .i64 v.y, .int .i64 v.z] 29) (.cells #[.int .i64 u.x, .int .i64 u.y, .int .i64 u.z] 29)
  obtain ⟨F, hF⟩ : ∃ f, Cf.fits v u = f := ⟨_, rfl⟩
  have hno := fun k h hk => Cf.fitsTo_no v u k h hk
  have hyes : Cf.fitsTo v u 3 = F := hF
  rw [hF] at hno ⊢
  have HNO := Lib.hid hno; have HY := Lib.hid hyes; have CA := Lib.hid ca; have CB := Lib.hid cb
  clear hno hyes ca cb hF
  go_enter Try.func13, Try.ntmps13
  go_wp2_with fail
  obtain ⟨W, hW⟩ : ∃ W, (w.alloc (.cells #[.int .i64 v.x, .int .i64 v.y, .int .i64 v.z] 29)).alloc (.cells #[.int .i64 u.x, .int .i64 u.y, .int .i64 u.z] 29) = W := ⟨_, rfl⟩
  rw [hW] at g0 CA CB ⊢
  clear hW
  have G0 := Lib.hid g0; clear g0
  go_loopw [5] (fun i wr => ∃ (j : Int) (n : Nat), 0 ≤ j ∧ j ≤ 3 ∧ i = .int .i64 j ∧ Hid (Cf.fitsTo v u j.toNat = true) ∧ wr = W.drewN n) (fun i _ => 3 - (intOf i).toNat)
  case atStart => exact ⟨0, 0, by omega, by omega, rfl, rfl, rfl⟩
  case round =>
    obtain ⟨j, n, hj0, hj3, rfl, hd, rfl⟩ := hrel
    by_cases hlt : j < 3
    · have hA := CA.out j.toNat (by omega)
      have hB := CB.out j.toNat (by omega)
      have HNJ := Lib.hid (fun h => HNO.out j.toNat h (by omega))
      obtain ⟨x, hx⟩ : ∃ x, v.at_ j.toNat = x := ⟨_, rfl⟩
      obtain ⟨y, hy⟩ : ∃ x, u.at_ j.toNat = x := ⟨_, rfl⟩
      have HX := Lib.hid hx; have HYY := Lib.hid hy
      rw [hx] at hA HNJ
      rw [hy] at hB HNJ
      clear hx hy
      by_cases hx0 : x ≤ y
      · go_wp2_with fail
        go_quiet (fail)
        go_wp2_with fail
        go_roundw
        case rel => exact ⟨j + 1, n + nq, by omega, by omega, rfl, by rw [show (j + 1).toNat = j.toNat + 1 by omega]; unfold Cf.fitsTo; rw [hd.out, HX.out, HYY.out, decide_eq_true hx0]; rfl, by simp⟩
        case measure => simp [intOf]; omega
      · have hf := HNJ.out (by omega)
        subst hf
        go_wp2_with fail
        go_quiet (fail)
        go_wp2_with fail
        go_ret
        exact ⟨rfl, below_drewN (below_drewN G0.out _) _⟩
    · obtain rfl : j = 3 := by omega
      have hf := HY.out.symm.trans hd.out
      subst hf
      go_wp2_with fail
      go_ret
      exact ⟨rfl, below_drewN G0.out _⟩

end Go.Proofs.Ytkakgjmajplgmaa
