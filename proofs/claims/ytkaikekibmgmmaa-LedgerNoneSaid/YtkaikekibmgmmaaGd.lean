/- Cfg Qt QtA: joined. -/
import Derived.Test.YtkaikekibmgmmaaGc
import Derived.Laws.OwnMore
namespace Go.Proofs.Ytkaikekibmgmmaa
open Go.RowKit
set_option linter.unusedVariables false

def V3.at_ (v : V3) : Nat → Int
  | 0 => v.x
  | 1 => v.y
  | _ => v.z
namespace Cf
def vd (x : Int) : Bool := decide (0 ≤ x) && decide (x ≤ 1048576)
def validTo (v : V3) : Nat → Bool
  | 0 => true
  | r + 1 => validTo v r && vd (v.at_ r)
def valid (v : V3) : Bool := validTo v 3
def fitsTo (a b : V3) : Nat → Bool
  | 0 => true
  | r + 1 => fitsTo a b r && decide (a.at_ r ≤ b.at_ r)
def fits (a b : V3) : Bool := fitsTo a b 3
def z3 : V3 := ⟨0, 0, 0⟩
/-- Is node n there, and nobody's Parent? -/
def leaf (ns : List Nd) (n : Int) : Bool := decide (0 ≤ n ∧ n < ns.length) && ns.all fun x => decide (x.par ≠ n)
/-- Node i's Parent and Weight. -/
def place (i : Int) (x : Nd) : Bool := !(decide (i = 0 ∧ x.par ≠ -1) || decide (0 < i ∧ (x.par < 0 ∨ i ≤ x.par)) || decide (x.wt < 1) || decide (1000 < x.wt))
def okNode (ns : List Nd) (i : Int) (x : Nd) : Bool :=
  place i x && (if leaf ns i = true then valid x.nom && valid x.bor && valid x.lend && fits x.lend x.nom else decide (x.nom = z3) && decide (x.bor = z3) && decide (x.lend = z3))
def okHost (h : Hs) : Bool := decide (0 ≤ h.fl ∧ h.fl ≤ 100) && decide (0 ≤ h.bl ∧ h.bl ≤ 100) && decide (0 ≤ h.ra ∧ h.ra ≤ 100) && valid h.cap
def allFrom (ns : List Nd) : Nat → List Nd → Bool
  | _, [] => true
  | i, x :: r => okNode ns i x && allFrom ns (i + 1) r
def frame (c : Cmd) : Bool := decide (1 ≤ c.nodes.length ∧ c.nodes.length ≤ 12) && decide (1 ≤ c.hosts.length ∧ c.hosts.length ≤ 24) && decide (1 ≤ c.half ∧ c.half ≤ 1048576) && decide (0 ≤ c.age ∧ c.age ≤ 1048576)
/-- A configuration is told by a command's fields of that name. -/
def check (c : Cmd) : Int := if (frame c && allFrom c.nodes 0 c.nodes && c.hosts.all okHost) = true then 0 else 2
def leaves (ns : List Nd) : List Int := ((List.range ns.length).map fun i : Nat => (i : Int)).filter (leaf ns)

theorem allFrom_iff (ns : List Nd) : ∀ (r : List Nd) (i : Nat), allFrom ns i r = true ↔ ∀ (k : Nat) x, r[k]? = some x → okNode ns ((i + k : Nat) : Int) x = true
  | [], i => by simp [allFrom]
  | y :: r, i => by
    rw [allFrom, Bool.and_eq_true, allFrom_iff ns r (i + 1)]
    constructor
    · rintro ⟨h1, h2⟩ k x hx
      cases k with
      | zero => simp at hx; subst hx; simpa using h1
      | succ k =>
        simp only [List.getElem?_cons_succ] at hx
        have := h2 k x hx
        rwa [show i + 1 + k = i + (k + 1) by omega] at this
    · intro h
      refine ⟨by simpa using h 0 y rfl, fun k x hx => ?_⟩
      have := h (k + 1) x (by simpa using hx)
      rwa [show i + (k + 1) = i + 1 + k by omega] at this
theorem check_iff (c : Cmd) : check c = 0 ↔ frame c = true ∧ (∀ (k : Nat) x, c.nodes[k]? = some x → okNode c.nodes (k : Int) x = true) ∧ c.hosts.all okHost = true := by
  unfold check
  have h := allFrom_iff c.nodes c.nodes 0
  simp only [Nat.zero_add] at h
  rw [← h]
  split
  · rename_i e
    simp only [Bool.and_eq_true] at e
    exact ⟨fun _ => ⟨e.1.1, e.1.2, e.2⟩, fun _ => rfl⟩
  · rename_i e
    constructor
    · intro h; omega
    · rintro ⟨h1, h2, h3⟩
      exact absurd (by simp [h1, h2, h3]) e
theorem check_two (c : Cmd) : check c = 0 ∨ check c = 2 := by unfold check; split <;> simp
theorem place_zero {x : Nd} (h : place 0 x = true) : x.par = -1 := by
  simp only [place, Bool.not_eq_true', Bool.or_eq_false_iff, decide_eq_false_iff_not] at h
  have := h.1.1.1
  simp at this
  exact this
theorem place_pos {i : Int} {x : Nd} (hi : 0 < i) (h : place i x = true) : 0 ≤ x.par ∧ x.par < i := by
  simp only [place, Bool.not_eq_true', Bool.or_eq_false_iff, decide_eq_false_iff_not] at h
  have := h.1.1.2
  omega
theorem okNode_place {ns : List Nd} {i : Int} {x : Nd} (h : okNode ns i x = true) : place i x = true := by
  unfold okNode at h
  rw [Bool.and_eq_true] at h
  exact h.1
/-- A node's Parent is no tenant. -/
theorem leaf_par {ns : List Nd} {k : Nat} {x : Nd} (h : ns[k]? = some x) : leaf ns x.par = false := by
  rw [leaf, Bool.and_eq_false_iff]
  right
  rw [List.all_eq_false]
  exact ⟨x, List.mem_of_getElem? h, by simp⟩
/-- The last node is a tenant. -/
theorem leaf_last {c : Cmd} (h : check c = 0) : leaf c.nodes ((c.nodes.length : Int) - 1) = true := by
  obtain ⟨hf, hn, _⟩ := (check_iff c).1 h
  simp only [frame, Bool.and_eq_true, decide_eq_true_eq] at hf
  have h1 := hf.1.1.1.1
  rw [leaf, Bool.and_eq_true]
  refine ⟨decide_eq_true (by omega), ?_⟩
  rw [List.all_eq_true]
  intro x hx
  obtain ⟨k, hk, e⟩ := List.mem_iff_getElem.1 hx
  have hp := okNode_place (hn k x (by rw [List.getElem?_eq_getElem hk, e]))
  rcases Nat.eq_zero_or_pos k with rfl | hk0
  · have := place_zero hp
    exact decide_eq_true (by omega)
  · have := place_pos (by omega) hp
    exact decide_eq_true (by omega)
theorem leaves_some {c : Cmd} (h : check c = 0) : 0 < (leaves c.nodes).length := by
  have hl := leaf_last h
  obtain ⟨hf, _, _⟩ := (check_iff c).1 h
  simp only [frame, Bool.and_eq_true, decide_eq_true_eq] at hf
  have h1 := hf.1.1.1.1
  apply List.length_pos_of_mem (a := ((c.nodes.length : Int) - 1))
  rw [leaves, List.mem_filter]
  refine ⟨List.mem_map.2 ⟨c.nodes.length - 1, List.mem_range.2 (by omega), by omega⟩, hl⟩
theorem validTo_no (v : V3) (k : Nat) (h : ¬ (0 ≤ v.at_ k ∧ v.at_ k ≤ 1048576)) (hk : k < 3) : valid v = false := by
  have e : vd (v.at_ k) = false := by unfold vd; simp; omega
  have hc : k = 0 ∨ k = 1 ∨ k = 2 := by omega
  unfold valid
  rcases hc with rfl | rfl | rfl <;> simp only [validTo, e, Bool.and_false, Bool.false_and]
theorem fitsTo_no (a b : V3) (k : Nat) (h : ¬ a.at_ k ≤ b.at_ k) (hk : k < 3) : fits a b = false := by
  have hc : k = 0 ∨ k = 1 ∨ k = 2 := by omega
  unfold fits
  rcases hc with rfl | rfl | rfl <;> simp [fitsTo, h]
end Cf

theorem cells_three {w : World} {b : Nat} {v : V3} (h : Holds w b #[.int .i64 v.x, .int .i64 v.y, .int .i64 v.z]) (k : Nat) (hk : k < 3) : w.cell? ⟨b, k, none⟩ = some (.int .i64 (v.at_ k)) := by
  have hc : k = 0 ∨ k = 1 ∨ k = 2 := by omega
  rcases hc with rfl | rfl | rfl <;> exact h _ _ rfl

set_option maxHeartbeats 400000 in
theorem rValid3 (v : V3) (w : World) : Calls Try.prog 24 #[.agg #[.int .i64 v.x, .int .i64 v.y, .int .i64 v.z]] w (RetBelow (.bool (Cf.valid v)) w) := by
  have hw := Holds.new w #[.int .i64 v.x, .int .i64 v.y, .int .i64 v.z] 35
  have ca := cells_three hw
  have g0 : Below w.heap.size w (w.alloc (.cells #[.int .i64 v.x, .int .i64 v.y, .int .i64 v.z] 35)) := (Below.refl _ _).alloc (Nat.le_refl _) _
  obtain ⟨F, hF⟩ : ∃ f, Cf.valid v = f := ⟨_, rfl⟩
  have hno := fun k h hk => Cf.validTo_no v k h hk
  have hyes : Cf.validTo v 3 = F := hF
  rw [hF] at hno ⊢
  have HNO := Lib.hid hno; have HY := Lib.hid hyes; have CA := Lib.hid ca
  clear hno hyes hw ca hF
  go_enter Try.func24, Try.ntmps24
  go_wp2_with fail
  obtain ⟨W, hW⟩ : ∃ W, w.alloc (.cells #[.int .i64 v.x, .int .i64 v.y, .int .i64 v.z] 35) = W := ⟨_, rfl⟩
  rw [hW] at g0 CA ⊢
  clear hW
  have G0 := Lib.hid g0; clear g0
  go_loopw [3] (fun i wr => ∃ j : Int, 0 ≤ j ∧ j ≤ 3 ∧ i = .int .i64 j ∧ Hid (Cf.validTo v j.toNat = true) ∧ wr = W) (fun i _ => 3 - (intOf i).toNat)
  case atStart => exact ⟨0, by omega, by omega, rfl, rfl, rfl⟩
  case round =>
    obtain ⟨j, hj0, hj3, rfl, hd, rfl⟩ := hrel
    by_cases hlt : j < 3
    · have hA := CA.out j.toNat (by omega)
      have HNJ := Lib.hid (fun h => HNO.out j.toNat h (by omega))
      obtain ⟨x, hx⟩ : ∃ x, v.at_ j.toNat = x := ⟨_, rfl⟩
      have HX := Lib.hid hx
      rw [hx] at hA HNJ
      clear hx
      by_cases hx0 : 0 ≤ x
      · by_cases hx1 : x ≤ 1048576
        · go_wp2_with fail
          go_roundw
          case rel => exact ⟨j + 1, by omega, by omega, rfl, by rw [show (j + 1).toNat = j.toNat + 1 by omega]; unfold Cf.validTo; rw [hd.out, HX.out, Cf.vd, decide_eq_true hx0, decide_eq_true hx1]; rfl, trivial⟩
          case measure => simp [intOf]; omega
        · have hf := HNJ.out (by omega)
          subst hf
          go_wp2_with fail
          go_ret
          exact ⟨rfl, G0.out⟩
      · have hf := HNJ.out (by omega)
        subst hf
        go_wp2_with fail
        go_ret
        exact ⟨rfl, G0.out⟩
    · obtain rfl : j = 3 := by omega
      have hf := HY.out.symm.trans hd.out
      subst hf
      go_wp2_with fail
      go_ret
      exact ⟨rfl, G0.out⟩

set_option maxHeartbeats 400000 in
theorem rFits3 (v u : V3) (w : World) : Calls Try.prog 23 #[.agg #[.int .i64 v.x, .int .i64 v.y, .int .i64 v.z], .agg #[.int .i64 u.x, .int .i64 u.y, .int .i64 u.z]] w (RetBelow (.bool (Cf.fits v u)) w) := by
  have ca := cells_three ((Holds.new w #[.int .i64 v.x, .int .i64 v.y, .int .i64 v.z] 35).kept (by simp) ((Below.refl _ _).alloc (Nat.le_refl _) (.cells #[.int .i64 u.x, .int .i64 u.y, .int .i64 u.z] 35)))
  have cb := cells_three (Holds.new (w.alloc (.cells #[.int .i64 v.x, .int .i64 v.y, .int .i64 v.z] 35)) #[.int .i64 u.x, .int .i64 u.y, .int .i64 u.z] 35)
  rw [World.size_alloc] at cb
  have g0 := two_below w (.cells #[.int .i64 v.x, .int .i64 v.y, .int .i64 v.z] 35) (.cells #[.int .i64 u.x, .int .i64 u.y, .int .i64 u.z] 35)
  obtain ⟨F, hF⟩ : ∃ f, Cf.fits v u = f := ⟨_, rfl⟩
  have hno := fun k h hk => Cf.fitsTo_no v u k h hk
  have hyes : Cf.fitsTo v u 3 = F := hF
  rw [hF] at hno ⊢
  have HNO := Lib.hid hno; have HY := Lib.hid hyes; have CA := Lib.hid ca; have CB := Lib.hid cb
  clear hno hyes ca cb hF
  go_enter Try.func23, Try.ntmps23
  go_wp2_with fail
  obtain ⟨W, hW⟩ : ∃ W, (w.alloc (.cells #[.int .i64 v.x, .int .i64 v.y, .int .i64 v.z] 35)).alloc (.cells #[.int .i64 u.x, .int .i64 u.y, .int .i64 u.z] 35) = W := ⟨_, rfl⟩
  rw [hW] at g0 CA CB ⊢
  clear hW
  have G0 := Lib.hid g0; clear g0
  go_loopw [5] (fun i wr => ∃ (j : Int) (n : Nat), 0 ≤ j ∧ j ≤ 3 ∧ i = .int .i64 j ∧ Hid (Cf.fitsTo v u j.toNat = true) ∧ wr = W.drewN n) (fun i _ => 3 - (intOf i).toNat)
  case atStart => exact ⟨0, 0, by omega, by omega, rfl, rfl, rfl⟩
  case round =>
    obtain ⟨j, n, hj0, hj3, rfl, hd, rfl⟩ := hrel
    by_cases hlt : j < 3
    · have hA := CA.out j.toNat (by omega)
      have hB := CB.out j.toNat (by omega)
      have HNJ := Lib.hid (fun h => HNO.out j.toNat h (by omega))
      obtain ⟨x, hx⟩ : ∃ x, v.at_ j.toNat = x := ⟨_, rfl⟩
      obtain ⟨y, hy⟩ : ∃ x, u.at_ j.toNat = x := ⟨_, rfl⟩
      have HX := Lib.hid hx; have HYY := Lib.hid hy
      rw [hx] at hA HNJ
      rw [hy] at hB HNJ
      clear hx hy
      by_cases hx0 : x ≤ y
      · go_wp2_with fail
        go_quiet (fail)
        go_wp2_with fail
        go_roundw
        case rel => exact ⟨j + 1, n + nq, by omega, by omega, rfl, by rw [show (j + 1).toNat = j.toNat + 1 by omega]; unfold Cf.fitsTo; rw [hd.out, HX.out, HYY.out, decide_eq_true hx0]; rfl, by simp⟩
        case measure => simp [intOf]; omega
      · have hf := HNJ.out (by omega)
        subst hf
        go_wp2_with fail
        go_quiet (fail)
        go_wp2_with fail
        go_ret
        exact ⟨rfl, below_drewN (below_drewN G0.out _) _⟩
    · obtain rfl : j = 3 := by omega
      have hf := HY.out.symm.trans hd.out
      subst hf
      go_wp2_with fail
      go_ret
      exact ⟨rfl, below_drewN G0.out _⟩

end Go.Proofs.Ytkaikekibmgmmaa
namespace Go.Proofs.Ytkaikekibmgmmaa
open Go.RowKit
set_option linter.unusedVariables false

namespace Qt
def far (n : Int) : Int := if n < -1099511627776 then -1099511627776 else if 1099511627776 < n then 1099511627776 else n
def add1 (a b : Int) : Int := far (far a + far b)
def sub1 (a b : Int) : Int := far (far a - far b)
def add (u v : V3) : V3 := ⟨add1 u.x v.x, add1 u.y v.y, add1 u.z v.z⟩
def sub (u v : V3) : V3 := ⟨sub1 u.x v.x, sub1 u.y v.y, sub1 u.z v.z⟩
def pos1 (n : Int) : Int := if 0 ≤ n then n else 0
def pos (v : V3) : V3 := ⟨pos1 v.x, pos1 v.y, pos1 v.z⟩
def z3 : V3 := ⟨0, 0, 0⟩
def nd0 : Nd := ⟨0, 0, z3, z3, z3⟩
/-- Of a row of amounts one; a node. -/
def ath (l : List V3) (n : Int) : V3 := if 0 ≤ n ∧ n < l.length then l.getD n.toNat z3 else z3
def nd (ns : List Nd) (n : Int) : Nd := ns.getD n.toNat nd0
/-- From the root to a node, ahead of l. -/
def pathTo (ns : List Nd) : Nat → Int → List Int → List Int
  | 0, _, l => l
  | f + 1, n, l => if 0 ≤ n ∧ n < ns.length then (if n ≤ (nd ns n).par then n :: l else pathTo ns f (nd ns n).par (n :: l)) else l
def path (ns : List Nd) (n : Int) : List Int := pathTo ns (n + 1).toNat n []
def on (ns : List Nd) (n t : Int) : Bool := (path ns t).any fun x => decide (x = n)
def below (ns : List Nd) (n : Int) : List Int := (Cf.leaves ns).filter fun t => on ns n t
def sumL (l : List V3) : V3 → List Int → V3
  | v, [] => v
  | v, b :: r => sumL l (add v (ath l b)) r
def sum (ns : List Nd) (n : Int) (l : List V3) : V3 := sumL l z3 (below ns n)
def nominal (ns : List Nd) (n : Int) : V3 := sum ns n (ns.map (·.nom))
def own (ns : List Nd) (used : List V3) (b : Int) : V3 := pos (sub (sub (nd ns b).nom (nd ns b).lend) (ath used b))
def keptL (ns : List Nd) (used : List V3) (t : Int) : V3 → List Int → V3
  | v, [] => v
  | v, b :: r => keptL ns used t (if b = t then v else add v (own ns used b)) r
def kept (ns : List Nd) (used : List V3) (n t : Int) : V3 := keptL ns used t z3 (below ns n)
def cohort (ns : List Nd) (used : List V3) (t : Int) (need : V3) (n : Int) : Bool := Cf.fits (add (add (sum ns n used) need) (kept ns used n t)) (nominal ns n)
def may (ns : List Nd) (used : List V3) (t : Int) (need : V3) : Bool :=
  Cf.leaf ns t && Cf.fits (add (ath used t) need) (add (nd ns t).nom (nd ns t).bor) && (path ns t).dropLast.all (cohort ns used t need)
def borrows (ns : List Nd) (used : List V3) (t : Int) : Bool := Cf.leaf ns t && !Cf.fits (ath used t) (nd ns t).nom
def within (ns : List Nd) (used : List V3) (t : Int) (need : V3) : Bool := Cf.leaf ns t && Cf.fits (add (ath used t) need) (nd ns t).nom

def le (u v : V3) : Prop := u.x ≤ v.x ∧ u.y ≤ v.y ∧ u.z ≤ v.z
theorem fits_iff (u v : V3) : Cf.fits u v = true ↔ le u v := by
  unfold Cf.fits le
  simp only [Cf.fitsTo, Bool.true_and, Bool.and_eq_true, decide_eq_true_eq, V3.at_, and_assoc]
def ok1 (x : Int) : Prop := 0 ≤ x ∧ x ≤ 1048576
def okv (v : V3) : Prop := ok1 v.x ∧ ok1 v.y ∧ ok1 v.z
theorem valid_iff (v : V3) : Cf.valid v = true ↔ okv v := by
  unfold Cf.valid okv ok1
  simp only [Cf.validTo, Cf.vd, Bool.true_and, Bool.and_eq_true, decide_eq_true_eq, V3.at_, and_assoc]
theorem far_in {n : Int} (h0 : -1099511627776 ≤ n) (h1 : n ≤ 1099511627776) : far n = n := by unfold far; (repeat' split) <;> omega
theorem far_mono {a b : Int} (h : a ≤ b) : far a ≤ far b := by unfold far; (repeat' split) <;> omega
theorem far_range (n : Int) : -1099511627776 ≤ far n ∧ far n ≤ 1099511627776 := by unfold far; (repeat' split) <;> omega
theorem add1_in {a b : Int} (a0 : 0 ≤ a) (b0 : 0 ≤ b) (h : a + b ≤ 1099511627776) : add1 a b = a + b := by
  unfold add1
  rw [far_in (n := a) (by omega) (by omega), far_in (n := b) (by omega) (by omega), far_in (n := a + b) (by omega) (by omega)]
theorem add1_mono {a b c d : Int} (h : a ≤ c) (k : b ≤ d) : add1 a b ≤ add1 c d := by
  have h1 := far_mono h; have h2 := far_mono k
  exact far_mono (by omega)
theorem add1_zero {a b : Int} (a0 : 0 ≤ a) (b0 : 0 ≤ b) : 0 ≤ add1 a b := by
  have h := add1_mono a0 b0
  have : add1 0 0 = 0 := by decide
  omega
theorem add1_more {a b : Int} (a0 : 0 ≤ a) (a1 : a ≤ 1099511627776) (b0 : 0 ≤ b) : a ≤ add1 a b := by
  have h := add1_mono (Int.le_refl a) b0
  rw [add1_in a0 (Int.le_refl 0) (by omega)] at h
  omega
theorem le_add {u v s t : V3} (h : le u s) (k : le v t) : le (add u v) (add s t) := ⟨add1_mono h.1 k.1, add1_mono h.2.1 k.2.1, add1_mono h.2.2 k.2.2⟩
theorem le_refl (u : V3) : le u u := ⟨Int.le_refl _, Int.le_refl _, Int.le_refl _⟩
theorem le_trans {u v s : V3} (h : le u v) (k : le v s) : le u s := ⟨Int.le_trans h.1 k.1, Int.le_trans h.2.1 k.2.1, Int.le_trans h.2.2 k.2.2⟩
theorem pos1_zero (n : Int) : 0 ≤ pos1 n := by unfold pos1; split <;> omega

/-- Less is as well. -/
theorem may_less {ns : List Nd} {used : List V3} {t : Int} {need less : V3} (h : may ns used t need = true) (hl : le less need) : may ns used t less = true := by
  unfold may at h ⊢
  simp only [Bool.and_eq_true, List.all_eq_true] at h ⊢
  obtain ⟨⟨h1, h2⟩, h3⟩ := h
  refine ⟨⟨h1, ?_⟩, fun n hn => ?_⟩
  · rw [fits_iff] at h2 ⊢
    exact le_trans (le_add (le_refl _) hl) h2
  · have h4 := h3 n hn
    unfold cohort at h4 ⊢
    rw [fits_iff] at h4 ⊢
    exact le_trans (le_add (le_add (le_refl _) hl) (le_refl _)) h4
theorem within_less {ns : List Nd} {used : List V3} {t : Int} {need less : V3} (h : within ns used t need = true) (hl : le less need) : within ns used t less = true := by
  unfold within at h ⊢
  simp only [Bool.and_eq_true] at h ⊢
  rw [fits_iff] at h ⊢
  exact ⟨h.1, le_trans (le_add (le_refl _) hl) h.2⟩

/-- Sums that are not cut. -/
def tot (g : Int → Int) : List Int → Int
  | [] => 0
  | b :: r => g b + tot g r
theorem tot_congr {g h : Int → Int} : ∀ {r : List Int}, (∀ b ∈ r, g b = h b) → tot g r = tot h r
  | [], _ => rfl
  | b :: r, e => by
    rw [tot, tot, e b (by simp), tot_congr (fun c hc => e c (by simp [hc]))]
theorem tot_le {g h : Int → Int} : ∀ {r : List Int}, (∀ b ∈ r, g b ≤ h b) → tot g r ≤ tot h r
  | [], _ => Int.le_refl _
  | b :: r, e => by
    have h1 := e b (by simp)
    have h2 := tot_le (r := r) (fun c hc => e c (by simp [hc]))
    rw [tot, tot]; omega
theorem tot_range {g : Int → Int} {M : Int} : ∀ {r : List Int}, (∀ b ∈ r, 0 ≤ g b ∧ g b ≤ M) → 0 ≤ tot g r ∧ tot g r ≤ r.length * M
  | [], _ => by simp [tot]
  | b :: r, e => by
    have h1 := e b (by simp)
    have h2 := tot_range (r := r) (fun c hc => e c (by simp [hc]))
    rw [tot, List.length_cons]
    have : ((r.length + 1 : Nat) : Int) * M = (r.length : Int) * M + M := by rw [Int.natCast_add, Int.add_mul]; simp
    omega
/-- One of them has so much more. -/
theorem tot_one {g : Int → Int} {t d : Int} : ∀ {r : List Int}, r.Pairwise (· < ·) → t ∈ r → tot (fun b => if b = t then g b + d else g b) r = tot g r + d
  | b :: r, hp, ht => by
    rw [List.pairwise_cons] at hp
    rw [tot, tot]
    by_cases e : b = t
    · subst e
      have : tot (fun c => if c = b then g c + d else g c) r = tot g r := tot_congr (fun c hc => by have := hp.1 c hc; rw [if_neg (by omega)])
      rw [this]
      simp only [if_pos]
      omega
    · have ht' : t ∈ r := by
        rcases List.mem_cons.1 ht with h | h
        · exact absurd h.symm e
        · exact h
      rw [tot_one hp.2 ht']
      simp only [if_neg e]
      omega

/-- What a bounded sum is. -/
theorem sumL_tot (l : List V3) (f : V3 → Int) (hf : ∀ u v, f (add u v) = add1 (f u) (f v)) (M : Int) : ∀ (r : List Int) (v : V3), (∀ b ∈ r, 0 ≤ f (ath l b) ∧ f (ath l b) ≤ M) → 0 ≤ f v → f v + r.length * M ≤ 1099511627776 → 0 ≤ M →
    f (sumL l v r) = f v + tot (fun b => f (ath l b)) r
  | [], v, _, _, _, _ => by simp [sumL, tot]
  | b :: r, v, hb, h0, h1, hM => by
    have e1 := hb b (by simp)
    rw [List.length_cons] at h1
    have em : ((r.length + 1 : Nat) : Int) * M = (r.length : Int) * M + M := by rw [Int.natCast_add, Int.add_mul]; simp
    have hm : 0 ≤ (r.length : Int) * M := Int.mul_nonneg (Int.natCast_nonneg _) hM
    have ea : f (add v (ath l b)) = f v + f (ath l b) := by rw [hf, add1_in h0 e1.1 (by omega)]
    rw [sumL, sumL_tot l f hf M r _ (fun c hc => hb c (by simp [hc])) (by omega) (by omega) hM, ea, tot]
    omega
theorem keptL_tot (ns : List Nd) (used : List V3) (t : Int) (f : V3 → Int) (hf : ∀ u v, f (add u v) = add1 (f u) (f v)) (M : Int) : ∀ (r : List Int) (v : V3), (∀ b ∈ r, 0 ≤ f (own ns used b) ∧ f (own ns used b) ≤ M) → 0 ≤ f v → f v + r.length * M ≤ 1099511627776 → 0 ≤ M →
    f (keptL ns used t v r) = f v + tot (fun b => if b = t then 0 else f (own ns used b)) r
  | [], v, _, _, _, _ => by simp [keptL, tot]
  | b :: r, v, hb, h0, h1, hM => by
    have e1 := hb b (by simp)
    rw [List.length_cons] at h1
    have em : ((r.length + 1 : Nat) : Int) * M = (r.length : Int) * M + M := by rw [Int.natCast_add, Int.add_mul]; simp
    have hm : 0 ≤ (r.length : Int) * M := Int.mul_nonneg (Int.natCast_nonneg _) hM
    rw [keptL, tot]
    by_cases e : b = t
    · rw [if_pos e, if_pos e, keptL_tot ns used t f hf M r _ (fun c hc => hb c (by simp [hc])) h0 (by omega) hM]
      omega
    · have ea : f (add v (own ns used b)) = f v + f (own ns used b) := by rw [hf, add1_in h0 e1.1 (by omega)]
      rw [if_neg e, if_neg e, keptL_tot ns used t f hf M r _ (fun c hc => hb c (by simp [hc])) (by omega) (by omega) hM, ea]
      omega
theorem keptL_zero (ns : List Nd) (used : List V3) (t : Int) (f : V3 → Int) (hf : ∀ u v, f (add u v) = add1 (f u) (f v)) (hp : ∀ b, 0 ≤ f (own ns used b)) : ∀ (r : List Int) (v : V3), 0 ≤ f v → 0 ≤ f (keptL ns used t v r)
  | [], v, h => h
  | b :: r, v, h => by
    rw [keptL]
    refine keptL_zero ns used t f hf hp r _ ?_
    split
    · exact h
    · rw [hf]; exact add1_zero h (hp b)

theorem leaves_sorted (ns : List Nd) : (Cf.leaves ns).Pairwise (· < ·) := by
  unfold Cf.leaves
  refine List.Pairwise.filter _ ?_
  rw [List.pairwise_map]
  exact List.pairwise_lt_range.imp (fun h => by omega)
theorem below_sorted (ns : List Nd) (n : Int) : (below ns n).Pairwise (· < ·) := List.Pairwise.filter _ (leaves_sorted ns)
theorem mem_leaves {ns : List Nd} {b : Int} : b ∈ Cf.leaves ns ↔ Cf.leaf ns b = true := by
  unfold Cf.leaves
  rw [List.mem_filter, List.mem_map]
  constructor
  · exact fun h => h.2
  · intro h
    refine ⟨?_, h⟩
    have h' := h
    rw [Cf.leaf, Bool.and_eq_true, decide_eq_true_eq] at h'
    exact ⟨b.toNat, List.mem_range.2 (by omega), by omega⟩
theorem mem_below {ns : List Nd} {n b : Int} : b ∈ below ns n ↔ Cf.leaf ns b = true ∧ on ns n b = true := by
  unfold below
  rw [List.mem_filter, mem_leaves]
theorem leaf_in {ns : List Nd} {b : Int} (h : Cf.leaf ns b = true) : 0 ≤ b ∧ b < ns.length := by
  rw [Cf.leaf, Bool.and_eq_true, decide_eq_true_eq] at h
  exact h.1
theorem below_few (ns : List Nd) (n : Int) : (below ns n).length ≤ ns.length := by
  unfold below Cf.leaves
  refine Nat.le_trans (List.length_filter_le _ _) (Nat.le_trans (List.length_filter_le _ _) ?_)
  simp
theorem on_path {ns : List Nd} {n t : Int} (h : n ∈ (path ns t).dropLast) : on ns n t = true := by
  unfold on
  rw [List.any_eq_true]
  exact ⟨n, List.dropLast_subset _ h, by simp⟩

theorem node_in {ns : List Nd} {b : Int} (h : 0 ≤ b ∧ b < ns.length) : ns[b.toNat]? = some (nd ns b) := by
  unfold nd
  rw [List.getD_eq_getElem?_getD, List.getElem?_eq_getElem (by omega)]
  rfl
/-- A tenant's amounts. -/
theorem leaf_okv {c : Cmd} (h : Cf.check c = 0) {b : Int} (hb : Cf.leaf c.nodes b = true) : okv (nd c.nodes b).nom ∧ okv (nd c.nodes b).bor ∧ okv (nd c.nodes b).lend ∧ le (nd c.nodes b).lend (nd c.nodes b).nom := by
  obtain ⟨_, hn, _⟩ := (Cf.check_iff c).1 h
  have hi := leaf_in hb
  have hk := hn b.toNat _ (node_in hi)
  rw [show ((b.toNat : Nat) : Int) = b by omega] at hk
  unfold Cf.okNode at hk
  rw [if_pos hb] at hk
  simp only [Bool.and_eq_true, valid_iff, fits_iff] at hk
  exact ⟨hk.2.1.1.1, hk.2.1.1.2, hk.2.1.2, hk.2.2⟩
theorem check_few {c : Cmd} (h : Cf.check c = 0) : c.nodes.length ≤ 12 := by
  obtain ⟨hf, _, _⟩ := (Cf.check_iff c).1 h
  simp only [Cf.frame, Bool.and_eq_true, decide_eq_true_eq] at hf
  exact hf.1.1.1.2
theorem okv_z : okv z3 := by unfold okv ok1 z3; simp
theorem ath_ok {l : List V3} (h : ∀ v ∈ l, okv v) (b : Int) : okv (ath l b) := by
  unfold ath
  split
  · rename_i hb
    rw [List.getD_eq_getElem?_getD, List.getElem?_eq_getElem (by omega)]
    exact h _ (List.getElem_mem _)
  · exact okv_z

/-- The three parts at once. -/
def each (P : (V3 → Int) → Prop) : Prop := P (·.x) ∧ P (·.y) ∧ P (·.z)
theorem add_x (u v : V3) : (add u v).x = add1 u.x v.x := rfl
theorem add_y (u v : V3) : (add u v).y = add1 u.y v.y := rfl
theorem add_z (u v : V3) : (add u v).z = add1 u.z v.z := rfl

/-- What is used behind it. -/
def now (ns : List Nd) (used : List V3) (t : Int) (need : V3) : List V3 := ((List.range ns.length).map fun i : Nat => ath used (i : Int)).set t.toNat (add (ath used t) need)
theorem ath_now {ns : List Nd} {used : List V3} {t : Int} {need : V3} (ht : 0 ≤ t ∧ t < ns.length) {b : Int} (hb : 0 ≤ b ∧ b < ns.length) : ath (now ns used t need) b = if b = t then add (ath used t) need else ath used b := by
  have hl : (now ns used t need).length = ns.length := by simp [now]
  have e : ath (now ns used t need) b = (now ns used t need).getD b.toNat z3 := by
    rw [ath, if_pos]; rw [hl]; exact hb
  rw [e, List.getD_eq_getElem?_getD]
  unfold now
  rw [List.getElem?_set]
  by_cases h : b = t
  · subst h
    rw [if_pos rfl, if_pos (by simp; omega), if_pos rfl]
    rfl
  · rw [if_neg (by omega), if_neg h, List.getElem?_map, List.getElem?_range (by omega)]
    simp only [Option.map_some, Option.getD_some]
    rw [show ((b.toNat : Nat) : Int) = b by omega]

theorem safe_one {c : Cmd} {used : List V3} {t : Int} {need : V3} (f : V3 → Int) (hf : ∀ u v, f (add u v) = add1 (f u) (f v)) (hz : f z3 = 0) (hok : ∀ v, okv v → ok1 (f v)) (hpos : ∀ b, 0 ≤ f (own c.nodes used b))
    (hc : Cf.check c = 0) (hu : ∀ v ∈ used, okv v) (hn : okv need) (ht : Cf.leaf c.nodes t = true) {n : Int} (hon : on c.nodes n t = true)
    (hle : f (add (add (sum c.nodes n used) need) (kept c.nodes used n t)) ≤ f (nominal c.nodes n)) : f (sum c.nodes n (now c.nodes used t need)) ≤ f (nominal c.nodes n) := by
  have hlen := below_few c.nodes n
  have h12 := check_few hc
  have hti := leaf_in ht
  have hnd := hok _ hn
  have hin : ∀ b ∈ below c.nodes n, 0 ≤ b ∧ b < c.nodes.length := fun b hb => leaf_in (mem_below.1 hb).1
  have htb : t ∈ below c.nodes n := mem_below.2 ⟨ht, hon⟩
  have e1 := sumL_tot used f hf 2097152 (below c.nodes n) z3 (fun b _ => by have := hok _ (ath_ok hu b); unfold ok1 at this; omega) (by rw [hz]; omega) (by rw [hz]; omega) (by decide)
  have e2 := sumL_tot (now c.nodes used t need) f hf 2097152 (below c.nodes n) z3 (fun b hb => by
    rw [ath_now hti (hin b hb)]
    have h1 := hok _ (ath_ok hu b); have h2 := hok _ (ath_ok hu t)
    unfold ok1 at h1 h2 hnd
    split
    · rw [hf, add1_in (by omega) (by omega) (by omega)]; omega
    · omega) (by rw [hz]; omega) (by rw [hz]; omega) (by decide)
  have e3 : tot (fun b => f (ath (now c.nodes used t need) b)) (below c.nodes n) = tot (fun b => f (ath used b)) (below c.nodes n) + f need := by
    rw [← tot_one (d := f need) (below_sorted c.nodes n) htb]
    refine tot_congr fun b hb => ?_
    rw [ath_now hti (hin b hb)]
    by_cases e : b = t
    · subst e
      have h2 := hok _ (ath_ok hu b)
      unfold ok1 at h2 hnd
      rw [if_pos rfl, if_pos rfl, hf, add1_in (by omega) (by omega) (by omega)]
    · rw [if_neg e, if_neg e]
  have hr := tot_range (g := fun b => f (ath used b)) (M := 1048576) (r := below c.nodes n) (fun b _ => hok _ (ath_ok hu b))
  have hk := keptL_zero c.nodes used t f hf hpos (below c.nodes n) z3 (by rw [hz]; omega)
  change f (sum c.nodes n used) = _ at e1
  change f (sum c.nodes n (now c.nodes used t need)) = _ at e2
  change 0 ≤ f (kept c.nodes used n t) at hk
  rw [hz] at e1 e2
  unfold ok1 at hnd
  rw [hf, hf] at hle
  rw [add1_in (a := f (sum c.nodes n used)) (b := f need) (by omega) (by omega) (by omega)] at hle
  have hm := add1_more (a := f (sum c.nodes n used) + f need) (b := f (kept c.nodes used n t)) (by omega) (by omega) hk
  omega

/-- What may be used more is safe. -/
theorem may_safe {c : Cmd} {used : List V3} {t : Int} {need : V3} (hc : Cf.check c = 0) (hu : ∀ v ∈ used, Cf.valid v = true) (hn : Cf.valid need = true) (hm : may c.nodes used t need = true) :
    (∀ n ∈ (path c.nodes t).dropLast, Cf.fits (sum c.nodes n (now c.nodes used t need)) (nominal c.nodes n) = true) ∧ Cf.fits (ath (now c.nodes used t need) t) (add (nd c.nodes t).nom (nd c.nodes t).bor) = true := by
  unfold may at hm
  simp only [Bool.and_eq_true, List.all_eq_true] at hm
  obtain ⟨⟨h1, h2⟩, h3⟩ := hm
  have hu' : ∀ v ∈ used, okv v := fun v hv => (valid_iff v).1 (hu v hv)
  have hn' := (valid_iff _).1 hn
  refine ⟨fun n hn => ?_, ?_⟩
  · have h4 := h3 n hn
    unfold cohort at h4
    rw [fits_iff] at h4 ⊢
    have ho := on_path hn
    exact ⟨safe_one (·.x) (fun _ _ => rfl) rfl (fun _ h => h.1) (fun b => pos1_zero _) hc hu' hn' h1 ho h4.1, safe_one (·.y) (fun _ _ => rfl) rfl (fun _ h => h.2.1) (fun b => pos1_zero _) hc hu' hn' h1 ho h4.2.1, safe_one (·.z) (fun _ _ => rfl) rfl (fun _ h => h.2.2) (fun b => pos1_zero _) hc hu' hn' h1 ho h4.2.2⟩
  · rw [ath_now (leaf_in h1) (leaf_in h1), if_pos rfl]
    exact h2

theorem ath_nil (b : Int) : ath [] b = z3 := by
  unfold ath
  rw [if_neg]
  simp only [List.length_nil]
  omega
theorem own_one (x y : Int) (hx : ok1 x) (hy : ok1 y) (h : y ≤ x) : ok1 (pos1 (sub1 (sub1 x y) 0)) ∧ pos1 (sub1 (sub1 x y) 0) ≤ x := by
  unfold ok1 at *
  unfold sub1
  rw [far_in (n := x) (by omega) (by omega), far_in (n := y) (by omega) (by omega), far_in (n := x - y) (by omega) (by omega), far_in (n := x - y) (by omega) (by omega), far_in (n := (0 : Int)) (by omega) (by omega), far_in (by omega) (by omega)]
  unfold pos1
  split <;> omega
theorem own_part {c : Cmd} {t : Int} (f : V3 → Int) (hf : ∀ u v, f (add u v) = add1 (f u) (f v)) (hz : f z3 = 0) (hok : ∀ v, okv v → ok1 (f v)) (hle : ∀ u v, le u v → f u ≤ f v) (hown : ∀ b, f (own c.nodes [] b) = pos1 (sub1 (sub1 (f (nd c.nodes b).nom) (f (nd c.nodes b).lend)) 0))
    (hc : Cf.check c = 0) (ht : Cf.leaf c.nodes t = true) {n : Int} (hon : on c.nodes n t = true) :
    f (add (add (sum c.nodes n []) (nd c.nodes t).nom) (kept c.nodes [] n t)) ≤ f (nominal c.nodes n) := by
  have hlen := below_few c.nodes n
  have h12 := check_few hc
  have hin : ∀ b ∈ below c.nodes n, Cf.leaf c.nodes b = true := fun b hb => (mem_below.1 hb).1
  have htb : t ∈ below c.nodes n := mem_below.2 ⟨ht, hon⟩
  have hnom : ∀ b, Cf.leaf c.nodes b = true → f (ath (c.nodes.map (·.nom)) b) = f (nd c.nodes b).nom := fun b hb => by
    have hi := leaf_in hb
    unfold ath nd
    rw [if_pos (by simpa using hi), List.getD_eq_getElem?_getD, List.getD_eq_getElem?_getD, List.getElem?_map, List.getElem?_eq_getElem (by omega)]
    rfl
  have how : ∀ b ∈ below c.nodes n, ok1 (f (own c.nodes [] b)) ∧ f (own c.nodes [] b) ≤ f (nd c.nodes b).nom := fun b hb => by
    obtain ⟨k1, _, k3, k4⟩ := leaf_okv hc (hin b hb)
    rw [hown]
    exact own_one _ _ (hok _ k1) (hok _ k3) (hle _ _ k4)
  have e1 := sumL_tot [] f hf 0 (below c.nodes n) z3 (fun b _ => by rw [ath_nil, hz]; omega) (by rw [hz]; omega) (by rw [hz]; omega) (by decide)
  have e2 := sumL_tot (c.nodes.map (·.nom)) f hf 1048576 (below c.nodes n) z3 (fun b hb => by rw [hnom b (hin b hb)]; exact hok _ (leaf_okv hc (hin b hb)).1) (by rw [hz]; omega) (by rw [hz]; omega) (by decide)
  have e3 := keptL_tot c.nodes [] t f hf 1048576 (below c.nodes n) z3 (fun b hb => (how b hb).1) (by rw [hz]; omega) (by rw [hz]; omega) (by decide)
  have z1 : tot (fun b => f (ath [] b)) (below c.nodes n) = 0 := by
    have h := tot_range (g := fun b => f (ath [] b)) (M := 0) (r := below c.nodes n) (fun b _ => by show 0 ≤ f (ath [] b) ∧ f (ath [] b) ≤ 0; rw [ath_nil, hz]; omega)
    omega
  have z2 : tot (fun b => f (ath (c.nodes.map (·.nom)) b)) (below c.nodes n) = tot (fun b => if b = t then 0 else f (nd c.nodes b).nom) (below c.nodes n) + f (nd c.nodes t).nom := by
    rw [← tot_one (d := f (nd c.nodes t).nom) (below_sorted c.nodes n) htb]
    refine tot_congr fun b hb => ?_
    rw [hnom b (hin b hb)]
    by_cases e : b = t
    · subst e; rw [if_pos rfl, if_pos rfl]; omega
    · rw [if_neg e, if_neg e]
  have z3' : tot (fun b => if b = t then 0 else f (own c.nodes [] b)) (below c.nodes n) ≤ tot (fun b => if b = t then 0 else f (nd c.nodes b).nom) (below c.nodes n) := tot_le fun b hb => by
    split
    · omega
    · exact (how b hb).2
  have z4 := tot_range (g := fun b => if b = t then 0 else f (own c.nodes [] b)) (M := 1048576) (r := below c.nodes n) (fun b hb => by
    have := (how b hb).1
    unfold ok1 at this
    show 0 ≤ (if b = t then 0 else f (own c.nodes [] b)) ∧ (if b = t then 0 else f (own c.nodes [] b)) ≤ 1048576
    split
    · omega
    · omega)
  change f (sum c.nodes n []) = _ at e1
  change f (nominal c.nodes n) = _ at e2
  change f (kept c.nodes [] n t) = _ at e3
  have ht1 := hok _ (leaf_okv hc ht).1
  unfold ok1 at ht1
  rw [hz] at e1 e2 e3
  rw [hf, hf, e1, e3, e2, z1, z2, add1_in (a := (0 + 0 : Int)) (b := f (nd c.nodes t).nom) (by omega) (by omega) (by omega), add1_in (a := 0 + 0 + f (nd c.nodes t).nom) (by omega) (by omega) (by omega)]
  omega

/-- While nobody uses anything each tenant may use its own. -/
theorem may_own {c : Cmd} {t : Int} (hc : Cf.check c = 0) (ht : Cf.leaf c.nodes t = true) : may c.nodes [] t (nd c.nodes t).nom = true ∧ within c.nodes [] t (nd c.nodes t).nom = true ∧ borrows c.nodes [] t = false := by
  obtain ⟨k1, k2, k3, k4⟩ := leaf_okv hc ht
  have hz : le z3 (nd c.nodes t).nom := ⟨k1.1.1, k1.2.1.1, k1.2.2.1⟩
  have e0 : add (ath [] t) (nd c.nodes t).nom = (nd c.nodes t).nom := by
    rw [ath_nil, V3.eq_iff]
    obtain ⟨a, b, d⟩ := k1
    unfold ok1 at a b d
    refine ⟨?_, ?_, ?_⟩
    · show add1 0 _ = _; rw [add1_in (by omega) (by omega) (by omega)]; omega
    · show add1 0 _ = _; rw [add1_in (by omega) (by omega) (by omega)]; omega
    · show add1 0 _ = _; rw [add1_in (by omega) (by omega) (by omega)]; omega
  refine ⟨?_, ?_, ?_⟩
  · unfold may
    simp only [Bool.and_eq_true, List.all_eq_true]
    refine ⟨⟨ht, ?_⟩, fun n hn => ?_⟩
    · rw [fits_iff, e0]
      obtain ⟨a, b, d⟩ := k1
      obtain ⟨a', b', d'⟩ := k2
      unfold ok1 at a b d a' b' d'
      exact ⟨add1_more (by omega) (by omega) (by omega), add1_more (by omega) (by omega) (by omega), add1_more (by omega) (by omega) (by omega)⟩
    · unfold cohort
      rw [fits_iff]
      have ho := on_path hn
      exact ⟨own_part (·.x) (fun _ _ => rfl) rfl (fun _ h => h.1) (fun _ _ h => h.1) (fun b => by show pos1 (sub1 _ (ath [] b).x) = _; rw [ath_nil]; rfl) hc ht ho, own_part (·.y) (fun _ _ => rfl) rfl (fun _ h => h.2.1) (fun _ _ h => h.2.1) (fun b => by show pos1 (sub1 _ (ath [] b).y) = _; rw [ath_nil]; rfl) hc ht ho, own_part (·.z) (fun _ _ => rfl) rfl (fun _ h => h.2.2) (fun _ _ h => h.2.2) (fun b => by show pos1 (sub1 _ (ath [] b).z) = _; rw [ath_nil]; rfl) hc ht ho⟩
  · unfold within
    rw [Bool.and_eq_true, e0, fits_iff]
    exact ⟨ht, le_refl _⟩
  · unfold borrows
    have : Cf.fits (ath [] t) (nd c.nodes t).nom = true := by rw [fits_iff, ath_nil]; exact hz
    rw [this, ht]
    rfl
end Qt

end Go.Proofs.Ytkaikekibmgmmaa
namespace Go.Proofs.Ytkaikekibmgmmaa
open Go.RowKit
set_option linter.unusedVariables false

def Qt.cutb (b n : Int) : Int := if n < -b then -b else if b < n then b else n
theorem rcutb (n b : Int) (b0 : 0 ≤ b) (b1 : b ≤ 9223372036854775807) (w : World) : Calls Try.prog 48 #[.int .i64 n, .int .i64 b] w fun e w' => e = .returned (.int .i64 (Qt.cutb b n)) ∧ w = w' := by
  go_enter Try.func48, Try.ntmps48
  go_wp2_with fail
  all_goals (
    go_ret
    exact ⟨ret_i64 (by unfold Qt.cutb; grind), rfl⟩)
theorem rcut3 (n : Int) (w : World) : Calls Try.prog 48 #[.int .i64 n, .int .i64 1099511627776] w fun e w' => e = .returned (.int .i64 (Qt.far n)) ∧ w = w' := rcutb n 1099511627776 (by omega) (by omega) w

theorem below_setRow3 {B : Nat} {u w : World} (h : Below B u w) {g : Nat} (hp : B ≤ g) (cs : Array Value) : Below B u (w.setRow g cs) :=
  ⟨h.os, h.tape, h.output, Nat.le_trans h.size (by simp), fun k hk => by
    rw [setRow_other w g k cs (by omega)]
    exact h.block k hk⟩

/-- The first r numbers are s's, the others a's. -/
def part3 (a s : V3) (r i : Nat) : Int := if i < r then s.at_ i else a.at_ i
/-- The newest three blocks: an amount of which the first r numbers have been turned; B; the result's place. -/
def Turn3 (w : World) (b a s : V3) (r : Nat) (n : Nat) : World :=
  (((w.alloc (.cells #[.int .i64 (part3 a s r 0), .int .i64 (part3 a s r 1), .int .i64 (part3 a s r 2)] 35)).alloc (.cells #[.int .i64 b.x, .int .i64 b.y, .int .i64 b.z] 35)).alloc (.cells #[.int .i64 0, .int .i64 0, .int .i64 0] 35)).drewN n
theorem turn3_step (w : World) (b a s : V3) (r n : Nat) (hr : r < 3) : (Turn3 w b a s r n).drew.setCell ⟨w.heap.size, r, none⟩ (.int .i64 (s.at_ r)) = Turn3 w b a s (r + 1) (n + 1) := by
  unfold Turn3
  show (((((w.alloc _).alloc _).alloc _).setCell _ _).drewN (n + 1)) = _
  rw [World.setCell_alloc_past _ _ _ _ (by simp; omega), World.setCell_alloc_past _ _ _ _ (by simp), World.setCell_alloc_at _ _ _ _ _ rfl]
  have hk : r = 0 ∨ r = 1 ∨ r = 2 := by omega
  rcases hk with rfl | rfl | rfl <;> rfl
theorem turn3_cell (w : World) (b a s : V3) (r n : Nat) (hr : r < 3) : (Turn3 w b a s r n).cell? ⟨w.heap.size, r, none⟩ = some (.int .i64 (a.at_ r)) := by
  unfold Turn3
  show (((w.alloc _).alloc _).alloc _).cell? _ = _
  rw [World.cell?_alloc_past _ _ _ (by simp; omega), World.cell?_alloc_past _ _ _ (by simp), World.cell?_alloc_at _ _ _ _ rfl]
  have hk : r = 0 ∨ r = 1 ∨ r = 2 := by omega
  rcases hk with rfl | rfl | rfl <;> rfl
theorem turn3_free (w : World) (b a s : V3) (r n i : Nat) : (Turn3 w b a s r n).frozen? ⟨w.heap.size, i, none⟩ = false := by
  unfold Turn3
  show (((w.alloc _).alloc (.cells _ _)).alloc (.cells _ _)).frozen? _ = _
  rw [World.frozen?_alloc_past _ _ _ (by simp; omega), World.frozen?_alloc_past _ _ _ (by simp), World.frozen?_alloc_at _ _ _ _ rfl]
theorem turn3_other (w : World) (b a s : V3) (r n i : Nat) (hi : i < 3) : (Turn3 w b a s r n).cell? ⟨w.heap.size + 1, i, none⟩ = some (.int .i64 (b.at_ i)) := by
  unfold Turn3
  show (((w.alloc _).alloc _).alloc _).cell? _ = _
  rw [World.cell?_alloc_past _ _ _ (by simp), World.cell?_alloc_at _ _ _ _ (by simp)]
  have hk : i = 0 ∨ i = 1 ∨ i = 2 := by omega
  rcases hk with rfl | rfl | rfl <;> rfl
theorem Qt.add_at (u v : V3) (k : Nat) : (Qt.add u v).at_ k = Qt.add1 (u.at_ k) (v.at_ k) := by
  match k with
  | 0 => rfl
  | 1 => rfl
  | k + 2 => rfl

set_option maxHeartbeats 400000 in
theorem rAdd3 (u v : V3) (w : World) : Calls Try.prog 37 #[.agg #[.int .i64 u.x, .int .i64 u.y, .int .i64 u.z], .agg #[.int .i64 v.x, .int .i64 v.y, .int .i64 v.z]] w (RetBelow (.agg #[.int .i64 (Qt.add u v).x, .int .i64 (Qt.add u v).y, .int .i64 (Qt.add u v).z]) w) := by
  obtain ⟨s, hs⟩ : ∃ s, Qt.add u v = s := ⟨_, rfl⟩
  have hsk : ∀ k, s.at_ k = Qt.far (Qt.far (u.at_ k) + Qt.far (v.at_ k)) := fun k => by rw [← hs]; exact Qt.add_at u v k
  rw [hs]
  have HSK := Lib.hid hsk
  clear hs hsk
  go_enter Try.func37, Try.ntmps37
  go_wp2_with fail
  go_loopw [5] (fun i wr => ∃ k n : Nat, k ≤ 3 ∧ i = .int .i64 (k : Int) ∧ wr = Turn3 w v u s k n) (fun i _ => 3 - (intOf i).toNat)
  case atStart => exact ⟨0, 0, by omega, rfl, rfl⟩
  case round =>
    obtain ⟨k, n, hk, rfl, hW⟩ := hrel
    by_cases hlt : k < 3
    · have hA : wr.cell? ⟨w.heap.size, k, none⟩ = some (.int .i64 (u.at_ k)) := by rw [hW]; exact turn3_cell _ _ _ _ _ _ hlt
      have hB : wr.cell? ⟨w.heap.size + 1, k, none⟩ = some (.int .i64 (v.at_ k)) := by rw [hW]; exact turn3_other _ _ _ _ _ _ _ hlt
      have hf : wr.frozen? ⟨w.heap.size, k, none⟩ = false := by rw [hW]; exact turn3_free _ _ _ _ _ _ _
      have HW := Lib.hid hW; clear hW
      have hx := Qt.far_range (u.at_ k)
      have hy := Qt.far_range (v.at_ k)
      have hsk := HSK.out k
      obtain ⟨a, ha⟩ : ∃ a, u.at_ k = a := ⟨_, rfl⟩
      obtain ⟨b, hb⟩ : ∃ a, v.at_ k = a := ⟨_, rfl⟩
      rw [ha] at hA hx hsk
      rw [hb] at hB hy hsk
      have HS := Lib.hid hsk
      clear ha hb hsk
      have r3 : (k : Int) < 3 := by omega
      have hw : IntKind.i64.wrap (Qt.far a + Qt.far b) = Qt.far a + Qt.far b := IntWalk.i64_in _ (by omega)
      go_wp2_with fail
      refine wp_region_still_tail 12 (by kernel_rfl) (by kernel_rfl) ?_
      simp only [List.take_succ_cons, List.take_zero, List.drop_succ_cons, List.drop_zero]
      repeat (first | (with_reducible refine wpStill_step (fun K hK => ?_); go_simp; (first | ((with_reducible refine hK _ ?_); clear hK K) | ((with_reducible refine ⟨_, still_of (rcut3 _ _), hK _ ?_⟩); clear hK K))))
      refine wpStill_nil ?_
      change wpList _ _ _ _ _ wr.drew
      clear hw
      go_wp2
      go_roundw
      case rel => exact ⟨k + 1, n + 1, by omega, by go_num, by rw [HW.out, ← HS.out]; exact turn3_step _ _ _ _ _ _ hlt⟩
      case measure => simp [intOf]; omega
    · obtain rfl : k = 3 := by omega
      subst hW
      have hd := setCell_drewN
      unfold Turn3
      go_wp2_with fail
      exact bodyPost_ret (results_cell_row (p := 4) (by kernel_rfl) _ _ (w.heap.size + 1 + 1) _ _ _ _ rfl (heap_top _ _ _ _ (by simp)) Try.underlying35 rfl (by kernel_rfl)) rfl ⟨rfl, below_drewN ((two_below _ _ _).alloc (two_below _ _ _).size _) n⟩

set_option maxHeartbeats 400000 in
theorem rAt3 (l : List V3) (ao : Option Addr) (cap bb oo : Nat) (n : Int) (w : World) (h : Sl V3.c 41 3 w ao cap bb oo l) :
    Calls Try.prog 19 #[.slice ao l.length cap, .int .i64 n] w (RetBelow (.agg (Qt.ath l n).c) w) := by
  obtain ⟨s, hs⟩ : ∃ s, Qt.ath l n = s := ⟨_, rfl⟩
  have hout : ¬ (0 ≤ n ∧ n < l.length) → s = ⟨0, 0, 0⟩ := fun q => by rw [← hs, Qt.ath, if_neg q]; rfl
  have hin : 0 ≤ n ∧ n < l.length → l[n.toNat]? = some s := fun q => by
    rw [← hs, Qt.ath, if_pos q, List.getD_eq_getElem?_getD, List.getElem?_eq_getElem (by omega)]
    rfl
  have n63 := h.small
  have hidx := h.idx
  rw [hs]
  obtain ⟨nl, hnl⟩ : ∃ n, l.length = n := ⟨_, rfl⟩
  rw [hnl] at n63 hidx hout hin ⊢
  obtain ⟨zn, hzn⟩ : ∃ z : Int, (nl : Int) = z := ⟨_, rfl⟩
  rw [hzn] at hout hin
  have HO := Lib.hid hout; have HI := Lib.hid hin; have HIX := Lib.hid hidx; have HS := Lib.hid h
  clear hout hin hidx h hs hnl
  have r0 := Lib.hid (Row.new w #[.int .i64 0, .int .i64 0, .int .i64 0] 35)
  have g0 := Lib.hid (show Below w.heap.size w (w.alloc (.cells #[.int .i64 0, .int .i64 0, .int .i64 0] 35)) from (Below.refl _ _).alloc (Nat.le_refl _) _)
  by_cases n0 : n < 0
  · have hf := HO.out (by omega)
    subst hf
    simp only [V3.c]
    go_enter Try.func19, Try.ntmps19
    go_wp2_with (first | (refine wpList_store_row rfl 35 _ _ rfl w.heap.size #[.int .i64 0, .int .i64 0, .int .i64 0] rfl rfl _ _ r0.out vec_len rfl (one_cells 0 0 0) ?_) | fail)
    exact bodyPost_ret (results_cell_row (p := 4) (by kernel_rfl) _ _ w.heap.size _ _ _ _ rfl (r0.out.setRow _) Try.underlying35 rfl vec_len) rfl ⟨rfl, below_setRow3 g0.out (Nat.le_refl _) _⟩
  by_cases n1 : zn ≤ n
  · have hf := HO.out (by omega)
    subst hf
    simp only [V3.c]
    go_enter Try.func19, Try.ntmps19
    go_wp2_with (first | (refine wpList_store_row rfl 35 _ _ rfl w.heap.size #[.int .i64 0, .int .i64 0, .int .i64 0] rfl rfl _ _ r0.out vec_len rfl (one_cells 0 0 0) ?_) | fail)
    exact bodyPost_ret (results_cell_row (p := 4) (by kernel_rfl) _ _ w.heap.size _ _ _ _ rfl (r0.out.setRow _) Try.underlying35 rfl vec_len) rfl ⟨rfl, below_setRow3 g0.out (Nat.le_refl _) _⟩
  have hx := HI.out (by omega)
  have hi := HIX.out n.toNat (by omega)
  rw [show ((n.toNat : Nat) : Int) = n by omega] at hi
  have hr := (HS.out.kept g0.out).at_ n.toNat s hx
  obtain ⟨x, y, z⟩ := s
  simp only [V3.c] at hr ⊢
  have HR := Lib.hid hr
  clear hr hx
  go_enter Try.func19, Try.ntmps19
  go_wp2_with (first
    | (refine wpList_load_mid rfl 35 _ rfl bb (oo + n.toNat * 3) rfl _ _ HR.out Try.underlying35 rfl vec_len ?_)
    | (refine wpList_store_row rfl 35 _ _ rfl w.heap.size #[.int .i64 x, .int .i64 y, .int .i64 z] rfl rfl _ _ r0.out vec_len rfl (one_cells x y z) ?_)
    | fail)
  exact bodyPost_ret (results_cell_row (p := 4) (by kernel_rfl) _ _ w.heap.size _ _ _ _ rfl (r0.out.setRow _) Try.underlying35 rfl vec_len) rfl ⟨rfl, below_setRow3 g0.out (Nat.le_refl _) _⟩

end Go.Proofs.Ytkaikekibmgmmaa
