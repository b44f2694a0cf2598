/- KcA KcB KcD KqF KcL KcG: joined. -/
import Derived.Test.YtkakgjmajplgmaaVecA
import Derived.Test.YtkakgjmajplgmaaCfg
import Derived.Test.YtkakgjmajplgmaaCfgA
import Derived.Test.YtkakgjmajplgmaaZa
import Derived.Test.YtkakgjmajplgmaaCfgC
import Derived.Test.YtkakgjmajplgmaaIntA
namespace Go.Proofs.Ytkakgjmajplgmaa
open Go.RowKit
set_option linter.unusedVariables false

namespace Kc

set_option maxHeartbeats 400000 in
theorem fitsOne_any (r : Nat) (hr : r < 3) (A B F : Nat) (x y : Int) (b : Bool) (w : World) (hF : w.cell? ⟨F, 0, none⟩ = some (.bool b)) (hf : w.frozen? ⟨F, 0, none⟩ = false) (hA : w.cell? ⟨A, r, none⟩ = some (.int .i64 x)) (hB : w.cell? ⟨B, r, none⟩ = some (.int .i64 y)) :
    Calls Try.prog 61 #[.int .i64 (r : Int), .pointer (some ⟨F, 0, none⟩), .pointer (some ⟨A, 0, none⟩), .pointer (some ⟨B, 0, none⟩)] w fun e w' => e = .returned (.tuple #[]) ∧ w' = w.drew.setCell ⟨F, 0, none⟩ (.bool (b && decide (x ≤ y))) := by
  have r3 : (r : Int) < 3 := by omega
  cases b
  · go_enter Try.func61, Try.ntmps61
    go_wp2_with fail
    refine wp_region_still_tail 10 (by kernel_rfl) (by kernel_rfl) ?_
    simp only [List.take_succ_cons, List.take_zero, List.drop_succ_cons, List.drop_zero]
    repeat (first | (with_reducible refine still_skip ?_ ?_; (focus (simp [Region.wanted, yielded]; done)); simp only [Act.put, List.setIfInBounds_toArray, List.set_cons_zero, List.set_cons_succ]) | (with_reducible refine wpStill_step (fun K hK => ?_); go_simp; (first | ((with_reducible refine hK _ ?_); clear hK K))))
    refine wpStill_nil ?_
    change wpList _ _ _ _ _ w.drew
    go_wp2
    go_end0
    exact ⟨rfl, rfl⟩
  · go_enter Try.func61, Try.ntmps61
    go_wp2_with fail
    refine wp_region_still_tail 10 (by kernel_rfl) (by kernel_rfl) ?_
    simp only [List.take_succ_cons, List.take_zero, List.drop_succ_cons, List.drop_zero]
    repeat (first | (with_reducible refine still_skip ?_ ?_; (focus (simp [Region.wanted, yielded]; done)); simp only [Act.put, List.setIfInBounds_toArray, List.set_cons_zero, List.set_cons_succ]) | (with_reducible refine wpStill_step (fun K hK => ?_); go_simp; (first | ((with_reducible refine hK _ ?_); clear hK K))))
    refine wpStill_nil ?_
    change wpList _ _ _ _ _ w.drew
    go_wp2
    go_end0
    exact ⟨rfl, rfl⟩

/-- Behind the walk over all resources: the newest block is c. -/
def Drawn (V : World) (c : Array Value) (t : Nat) (e : Ending) (w' : World) : Prop := e = .returned (.tuple #[]) ∧ ∃ n, w' = (V.alloc (.cells c t)).drewN n

/-- All resources, where each walk only turns the newest block. -/
theorem each_on (k : Nat) (cap : Array Value) (V : World) (row : Nat → Array Value) (t : Nat) (hk : Enters k cap)
    (hc : ∀ r n : Nat, r < 3 → Calls Try.prog k (#[.int .i64 (r : Int)] ++ cap) ((V.alloc (.cells (row r) t)).drewN n) (Drawn V (row (r + 1)) t)) :
    Calls Try.prog 52 #[.func (.func k) #[] cap] (V.alloc (.cells (row 0) t)) (Drawn V (row 3) t) := by
  refine (each_any k cap hk (fun r w => ∃ n, w = (V.alloc (.cells (row r) t)).drewN n) (fun r hr w hI => ?_) _ ⟨0, rfl⟩).mono fun e w' h => h
  obtain ⟨n, rfl⟩ := hI
  exact (hc r n hr).mono fun e w' h => h

theorem step_bool (V : World) (t : Nat) (n : Nat) (a b : Value) : (((V.alloc (.cells #[a] t)).drewN n).setCell ⟨V.heap.size, 0, none⟩ b) = (V.alloc (.cells #[b] t)).drewN n := by
  have h := World.setCell_alloc_at (w := V) #[a] t V.heap.size 0 b rfl
  show ((V.alloc _).setCell _ _).drewN n = _
  rw [h]
  rfl

theorem each_fits (A B : Nat) (a b : V3) (V : World) (S : Nat) (hS : V.heap.size = S) (hA : A < V.heap.size) (hB : B < V.heap.size) (ca : ∀ r : Nat, r < 3 → V.cell? ⟨A, r, none⟩ = some (.int .i64 (a.at_ r))) (cb : ∀ r : Nat, r < 3 → V.cell? ⟨B, r, none⟩ = some (.int .i64 (b.at_ r))) :
    Calls Try.prog 52 #[.func (.func 61) #[] #[.pointer (some ⟨S, 0, none⟩), .pointer (some ⟨A, 0, none⟩), .pointer (some ⟨B, 0, none⟩)]] (V.alloc (.cells #[.bool true] 4)) (Drawn V #[.bool (Cf.fits a b)] 4) := by
  subst hS
  refine each_on _ _ V (fun r => #[.bool (Cf.fitsTo a b r)]) 4 (fun _ _ => rfl) (fun r n hr => ?_)
  refine (fitsOne_any r hr A B V.heap.size (a.at_ r) (b.at_ r) (Cf.fitsTo a b r) _ (top_cell V _ n _) (top_free V _ _ n _) (old_cell V _ n _ _ hA (ca r hr)) (old_cell V _ n _ _ hB (cb r hr))).mono ?_
  rintro e w' ⟨rfl, rfl⟩
  exact ⟨rfl, n + 1, step_bool V _ (n + 1) _ _⟩

end Kc

set_option maxHeartbeats 400000 in
theorem kFits3 (v u : V3) (w : World) : Calls Try.prog 51 #[.agg #[.int .i64 v.x, .int .i64 v.y, .int .i64 v.z], .agg #[.int .i64 u.x, .int .i64 u.y, .int .i64 u.z]] w (RetBelow (.bool (Cf.fits v u)) w) := by
  have hmf : ∀ (fn : Fn) (first cap : Array Value) (w : World), (Instr.makeFunc fn first cap).run Try.prog w = .ok (.func fn first cap) w := fun _ _ _ _ => rfl
  have ca := cells_three ((Holds.new w #[.int .i64 v.x, .int .i64 v.y, .int .i64 v.z] 29).kept (by simp) ((Below.refl _ _).alloc (Nat.le_refl _) (.cells #[.int .i64 u.x, .int .i64 u.y, .int .i64 u.z] 29)))
  have cb := cells_three (Holds.new (w.alloc (.cells #[.int .i64 v.x, .int .i64 v.y, .int .i64 v.z] 29)) #[.int .i64 u.x, .int .i64 u.y, .int .i64 u.z] 29)
  rw [World.size_alloc] at cb
  have CA := Lib.hid ca; have CB := Lib.hid cb
  clear ca cb
  go_enter Try.func51, Try.ntmps51
  go_wp2_with fail
  refine (Kc.each_fits w.heap.size (w.heap.size + 1) v u
    ((w.alloc (.cells #[.int .i64 v.x, .int .i64 v.y, .int .i64 v.z] 29)).alloc (.cells #[.int .i64 u.x, .int .i64 u.y, .int .i64 u.z] 29))
    (w.heap.size + 1 + 1) (by simp) (by simp; omega) (by simp) CA.out CB.out).mono ?_
  rintro e w' ⟨rfl, n, rfl⟩
  go_wp2_with fail
  go_ret
  exact ⟨rfl, below_drewN (Below.alloc (two_below _ _ _) (two_below _ _ _).size _) n⟩

end Go.Proofs.Ytkakgjmajplgmaa
namespace Go.Proofs.Ytkakgjmajplgmaa
open Go.RowKit
set_option linter.unusedVariables false

theorem node_eql (w : World) (g h : Nd) : (binOp .eql 42 (.agg g.c) (.agg h.c)).run Try.prog w = .ok (.bool (decide (g = h))) w := by
  rw [run_eql_struct, node_eqlIn, Result.andThen_ok]

theorem kWithin (n a b : Int) (w : World) : Calls Try.prog 47 #[.int .i64 n, .int .i64 a, .int .i64 b] w fun e w' => e = .returned (.bool (decide (a ≤ n ∧ n ≤ b))) ∧ w = w' := by
  obtain ⟨F, hF⟩ : ∃ f, decide (a ≤ n ∧ n ≤ b) = f := ⟨_, rfl⟩
  have hf := Lib.hid hF
  rw [hF]
  clear hF
  by_cases h : a ≤ n
  · by_cases h2 : n ≤ b
    · have e := hf.out.symm.trans (decide_eq_true ⟨h, h2⟩)
      subst e
      go_enter Try.func47, Try.ntmps47
      go_wp2_with fail
      go_ret
      exact ⟨rfl, rfl⟩
    · have e := hf.out.symm.trans (decide_eq_false fun q => h2 q.2)
      subst e
      go_enter Try.func47, Try.ntmps47
      go_wp2_with fail
      go_ret
      exact ⟨rfl, rfl⟩
  · have e := hf.out.symm.trans (decide_eq_false fun q => h q.1)
    subst e
    go_enter Try.func47, Try.ntmps47
    go_wp2_with fail
    go_ret
    exact ⟨rfl, rfl⟩

/-- A node with nothing but its Parent and its Weight. -/
def Cf.bareOf (x : Nd) : Nd := ⟨x.par, x.wt, Cf.z3, Cf.z3, Cf.z3⟩
theorem Cf.bare_iff (x : Nd) : decide (x = Cf.bareOf x) = (decide (x.nom = Cf.z3) && decide (x.bor = Cf.z3) && decide (x.lend = Cf.z3)) := by
  rw [Bool.eq_iff_iff]
  simp only [Bool.and_eq_true, decide_eq_true_eq, Nd.eq_iff, Cf.bareOf, true_and]
  constructor
  · rintro ⟨h1, h2, h3⟩; exact ⟨⟨h1, h2⟩, h3⟩
  · rintro ⟨⟨h1, h2⟩, h3⟩; exact ⟨h1, h2, h3⟩

end Go.Proofs.Ytkakgjmajplgmaa
namespace Go.Proofs.Ytkakgjmajplgmaa
open Go.RowKit
set_option linter.unusedVariables false

/-- A row of answers. -/
def bcells (l : List Bool) : Array Value := (l.map Value.bool).toArray
theorem bcells_at (l : List Bool) (i : Nat) : (bcells l)[i]? = (l[i]?).map Value.bool := by simp [bcells]
theorem bcells_set (l : List Bool) (i : Nat) (b : Bool) : (bcells l).setIfInBounds i (.bool b) = bcells (l.set i b) := by
  unfold bcells
  rw [List.setIfInBounds_toArray, List.map_set]
theorem bool_index (b len cap i : Nat) (hi : i < len) (w0 : World) : (Instr.indexAt 81 (.slice (some ⟨b, 0, none⟩) len cap) (.int .i64 (i : Int))).run Try.prog w0 = .ok (.pointer (some ⟨b, i, none⟩)) w0 := by
  have e : (⟨b, 0, none⟩ : Addr).add i = ⟨b, i, none⟩ := by unfold Addr.add; split <;> simp_all
  have h : (0 : Int) ≤ (i : Int) ∧ (i : Int) < (len : Int) := by omega
  simp [Instr.indexAt, run_underlying Try.underlying81, asIntOf, hi, e]
theorem bool_info : (Try.prog.info? 4).map (fun i => (i.zero, i.size, i.bytes)) = some (some (.bool false), 1, 1) := by kernel_rfl
theorem make_bools (w : World) (n : Nat) (hn : n ≤ 1000) : (Instr.makeSlice 81 (.int .i64 (n : Int)) (.int .i64 (n : Int))).run Try.prog w = .ok (.slice (some ⟨w.heap.size, 0, none⟩) n n) (w.alloc (.cells (bcells (List.replicate n false)) 4)) := by
  obtain ⟨i, hi, hz, hs, hb⟩ := info_parts bool_info
  have h := run_make (P := Try.prog) w 81 4 i _ Try.underlying81 hi hz .i64 .i64 n n (by omega) (by omega) (by rw [hb]; omega) (by omega)
  have e : madeCells (Value.bool false).cells (n * 1) = bcells (List.replicate n false) := by
    apply Array.toList_inj.1
    apply List.ext_getElem?
    intro j
    by_cases h : j < n <;> simp [madeCells, Value.cells, bcells, h, Nat.mod_one]
  rw [hs, Int.toNat_natCast, e] at h
  exact h

namespace Cf
/-- Of each node: is it a Parent of one of the first j? -/
def parTo (ns : List Nd) (j : Nat) : List Bool := (List.range ns.length).map fun k : Nat => (ns.take j).any fun x => decide (x.par = (k : Int))
theorem parTo_len (ns : List Nd) (j : Nat) : (parTo ns j).length = ns.length := by simp [parTo]
theorem parTo_zero (ns : List Nd) : parTo ns 0 = List.replicate ns.length false := by
  unfold parTo
  have h : (fun k : Nat => (ns.take 0).any fun x => decide (x.par = (k : Int))) = fun _ => false := by funext k; simp
  rw [h, List.map_const', List.length_range]
theorem parTo_at (ns : List Nd) (j k : Nat) (h : k < ns.length) : (parTo ns j)[k]? = some ((ns.take j).any fun x => decide (x.par = (k : Int))) := by
  rw [parTo, List.getElem?_map, List.getElem?_range h, Option.map_some]
theorem take_snoc {ns : List Nd} {j : Nat} {x : Nd} (hx : ns[j]? = some x) : ns.take (j + 1) = ns.take j ++ [x] := by rw [List.take_add_one, hx]; rfl
theorem parTo_set {ns : List Nd} {j k : Nat} {x : Nd} (hx : ns[j]? = some x) (hk : x.par = (k : Int)) (hl : k < ns.length) : (parTo ns j).set k true = parTo ns (j + 1) := by
  apply List.ext_getElem?
  intro i
  rw [List.getElem?_set, parTo_len]
  rcases Nat.lt_or_ge i ns.length with q | q
  · rw [parTo_at ns (j + 1) i q, parTo_at ns j i q, take_snoc hx]
    by_cases e : k = i
    · subst e
      rw [if_pos rfl, if_pos hl]
      simp [hk]
    · rw [if_neg e]
      have : ¬ x.par = (i : Int) := by omega
      simp [this]
  · rw [List.getElem?_eq_none (by rw [parTo_len]; exact q), List.getElem?_eq_none (by rw [parTo_len]; exact q)]
    by_cases e : k = i
    · omega
    · rw [if_neg e]
theorem parTo_out {ns : List Nd} {j : Nat} {x : Nd} (hx : ns[j]? = some x) (hk : ¬ (0 ≤ x.par ∧ x.par ≤ (ns.length : Int) - 1)) : parTo ns j = parTo ns (j + 1) := by
  apply List.ext_getElem?
  intro i
  rcases Nat.lt_or_ge i ns.length with q | q
  · rw [parTo_at ns (j + 1) i q, parTo_at ns j i q, take_snoc hx]
    have : ¬ x.par = (i : Int) := by omega
    simp [this]
  · rw [List.getElem?_eq_none (by rw [parTo_len]; exact q), List.getElem?_eq_none (by rw [parTo_len]; exact q)]
/-- Of each node: is it a Parent? -/
def pars (ns : List Nd) : List Bool := parTo ns ns.length
theorem pars_len (ns : List Nd) : (pars ns).length = ns.length := parTo_len _ _
theorem pars_at (ns : List Nd) (k : Nat) (h : k < ns.length) : (pars ns)[k]? = some (!leaf ns (k : Int)) := by
  rw [pars, parTo_at ns _ k h, List.take_length]
  congr 1
  rw [leaf, decide_eq_true (by omega), Bool.true_and]
  induction ns with
  | nil => rfl
  | cons x l ih =>
    clear ih h
    rw [Bool.eq_iff_iff]
    simp
end Cf

/-- The answers so far. -/
structure PaTo (ns : List Nd) (w : World) (j : Int) (wr : World) : Prop where
  row : Row wr w.heap.size (bcells (Cf.parTo ns j.toNat)) 4
  low : Below w.heap.size w wr

set_option maxHeartbeats 1000000 in
set_option maxRecDepth 4000 in
theorem kParents (ns : List Nd) (an : Option Addr) (cn nb no : Nat) (w : World) (hN : Sl Nd.c 22 11 w an cn nb no ns) (h3 : ns.length ≤ 300) :
    Calls Try.prog 66 #[.slice an ns.length cn] w fun e w' => e = .returned (.slice (some ⟨w.heap.size, 0, none⟩) ns.length ns.length) ∧ Row w' w.heap.size (bcells (Cf.pars ns)) 4 ∧ Below w.heap.size w w' := by
  have hNi := hN.idx
  have hmk := make_bools w ns.length (by omega)
  have so0 : PaTo ns w 0 (w.alloc (.cells (bcells (List.replicate ns.length false)) 4)) := ⟨by rw [show (0 : Int).toNat = 0 from rfl, Cf.parTo_zero]; exact Row.new _ _ _, (Below.refl _ _).alloc (Nat.le_refl _) _⟩
  have hend : ∀ j : Int, j = ns.length → Cf.parTo ns j.toNat = Cf.pars ns := fun j h => by rw [h]; rfl
  have hset := fun j k x h1 h2 h3 => @Cf.parTo_set ns j k x h1 h2 h3
  have hout := fun j x h1 h2 => @Cf.parTo_out ns j x h1 h2
  obtain ⟨nl, hnl⟩ : ∃ n, ns.length = n := ⟨_, rfl⟩
  rw [hnl] at hNi hmk h3 so0 hend hset hout ⊢
  obtain ⟨zn, hzn⟩ : ∃ z : Int, (nl : Int) = z := ⟨_, rfl⟩
  have hbi := fun (i : Nat) (h : i < nl) w0 => bool_index w.heap.size nl nl i h w0
  obtain ⟨W, hW⟩ : ∃ W, w.alloc (.cells (bcells (List.replicate nl false)) 4) = W := ⟨_, rfl⟩
  rw [hW] at hmk so0
  simp only [hzn] at hmk
  have HNI := Lib.hid hNi; have HN := Lib.hid hN; have HL := Lib.hid hnl; have S0 := Lib.hid so0; have HE := Lib.hid hend; have HS := Lib.hid hset; have HO := Lib.hid hout; have HZ := Lib.hid hzn; have HBI := Lib.hid hbi
  have hsub : IntKind.i64.wrap (zn - 1) = zn - 1 := by rw [IntKind.wrap_i64]; omega
  clear hNi hN hnl so0 hend hset hout hW hbi
  go_enter Try.func66, Try.ntmps66
  go_wp2_with fail
  clear hmk
  go_loopw [11] (fun i wr => ∃ (j : Int), i = .int .i64 j ∧ 0 ≤ j ∧ j ≤ zn ∧ Hid (PaTo ns w j wr)) (fun i _ => (zn - intOf i).toNat)
  case atStart => exact ⟨0, rfl, by omega, by omega, S0.out⟩
  case round =>
    obtain ⟨j, rfl, hj0, hjz, hd⟩ := hrel
    by_cases hlt : j < zn
    · obtain ⟨x, hx⟩ : ∃ x, ns[j.toNat]? = some x := ⟨_, List.getElem?_eq_getElem (by have := HL.out; omega)⟩
      have hi := HNI.out j.toNat (by omega)
      rw [show ((j.toNat : Nat) : Int) = j by omega] at hi
      have hr := (HN.out.kept hd.out.low).at_ j.toNat x hx
      have e1 := fun k h1 h2 => HS.out j.toNat k x hx h1 h2
      have e2 := fun h1 => HO.out j.toNat x hx h1
      rw [HZ.out] at e2
      obtain ⟨p, t, ⟨a0, a1, a2⟩, ⟨b0, b1, b2⟩, ⟨c0, c1, c2⟩⟩ := x
      simp only [Nd.c] at hr e1 e2
      have hwi := fun w => kWithin p 0 (zn - 1) w
      have HR := Lib.hid hr; have E1 := Lib.hid e1; have E2 := Lib.hid e2
      clear hr e1 e2 hx
      obtain ⟨oi, hoi⟩ : ∃ n, no + j.toNat * 11 = n := ⟨_, rfl⟩
      rw [hoi] at hi HR
      clear hoi
      have hf0 : (wr.alloc (.cells #[.int .i64 p, .int .i64 t, .int .i64 a0, .int .i64 a1, .int .i64 a2, .int .i64 b0, .int .i64 b1, .int .i64 b2, .int .i64 c0, .int .i64 c1, .int .i64 c2] 42)).cell? ⟨wr.heap.size, 0, none⟩ = some (.int .i64 p) := (World.cell?_alloc_at (w := wr) _ _ _ 0 rfl)
      have g1 := (Below.refl wr.heap.size wr).alloc (Nat.le_refl _) (.cells #[.int .i64 p, .int .i64 t, .int .i64 a0, .int .i64 a1, .int .i64 a2, .int .i64 b0, .int .i64 b1, .int .i64 b2, .int .i64 c0, .int .i64 c1, .int .i64 c2] 42)
      have R1 := Lib.hid (hd.out.row.under g1); have L1 := Lib.hid (below_trans hd.out.low (g1.mono (Nat.le_refl _)))
      go_upto_region 5 with (first | (refine wpList_load_mid rfl 42 _ rfl nb oi rfl _ _ HR.out Try.underlying42 rfl node_len ?_) | fail)
      obtain ⟨WW, hWW⟩ : ∃ W, wr.alloc (.cells #[.int .i64 p, .int .i64 t, .int .i64 a0, .int .i64 a1, .int .i64 a2, .int .i64 b0, .int .i64 b1, .int .i64 b2, .int .i64 c0, .int .i64 c1, .int .i64 c2] 42) = W := ⟨_, rfl⟩
      rw [hWW] at R1 L1 hf0 ⊢
      clear hWW g1
      by_cases hp : 0 ≤ p ∧ p ≤ zn - 1
      · rw [decide_eq_true hp] at hwi
        obtain ⟨k, hk⟩ : ∃ k : Nat, p = (k : Int) := ⟨p.toNat, by omega⟩
        subst hk
        have hbi := HBI.out k (by omega)
        have WI := Lib.hid hwi
        have hfz : WW.frozen? ⟨w.heap.size, k, none⟩ = false := R1.out.soft k
        have hold : ∃ v : Bool, WW.cell? ⟨w.heap.size, k, none⟩ = some (.bool v) :=
          ⟨(ns.take j.toNat).any fun x => decide (x.par = (k : Int)), by rw [R1.out.at_ k, bcells_at, Cf.parTo_at ns j.toNat k (by have := HL.out; omega)]; rfl⟩
        obtain ⟨vo, hvo⟩ := hold
        have R2 := R1.out.set k (.bool true)
        rw [bcells_set, E1.out k rfl (by omega)] at R2
        have L2 := Lib.hid (L1.out.trans (((But.refl w.heap.size WW).setCell (p := ⟨w.heap.size, k, none⟩) (.inr rfl) (.bool true)).below (Nat.le_refl _) L1.out.size))
        have R2' := Lib.hid R2
        clear hwi R2
        go_wp2_with fail
        refine (WI.out _).mono ?_
        rintro er w2 ⟨rfl, rfl⟩
        go_wp2_with fail
        go_roundw
        case rel => exact ⟨j + 1, rfl, by omega, by omega, by rw [show (j + 1).toNat = j.toNat + 1 by omega]; exact R2'.out, L2.out⟩
        case measure => simp [intOf]; omega
      · rw [decide_eq_false hp] at hwi
        have WI := Lib.hid hwi
        have e := E2.out hp
        have E := Lib.hid e
        clear hwi e hp
        go_wp2_with fail
        refine (WI.out _).mono ?_
        rintro er w2 ⟨rfl, rfl⟩
        go_wp2_with fail
        go_roundw
        case rel => exact ⟨j + 1, rfl, by omega, by omega, by rw [show (j + 1).toNat = j.toNat + 1 by omega, ← E.out]; exact R1.out, L1.out⟩
        case measure => simp [intOf]; omega
    · have he := HE.out j (by have := HZ.out; omega)
      have R1 := hd.out.row
      rw [he] at R1
      have R := Lib.hid R1
      have L := Lib.hid hd.out.low
      clear R1 he hd
      go_wp2_with fail
      go_ret
      exact ⟨rfl, R.out, L.out⟩

end Go.Proofs.Ytkakgjmajplgmaa
namespace Go.Proofs.Ytkakgjmajplgmaa
open Go Go.RowKit
set_option linter.unusedVariables false

namespace Qt
/-- Of the first j nodes: does n stand on its path? -/
def hasTo (ns : List Nd) (n : Int) (j : Nat) : List Bool := (List.range ns.length).map fun k : Nat => decide (k < j) && on ns n (k : Int)
theorem hasTo_len (ns : List Nd) (n : Int) (j : Nat) : (hasTo ns n j).length = ns.length := by simp [hasTo]
theorem hasTo_zero (ns : List Nd) (n : Int) : hasTo ns n 0 = List.replicate ns.length false := by
  unfold hasTo
  have h : (fun k : Nat => decide (k < 0) && on ns n (k : Int)) = fun _ => false := by funext k; simp
  rw [h, List.map_const', List.length_range]
theorem hasTo_at (ns : List Nd) (n : Int) (j k : Nat) (h : k < ns.length) : (hasTo ns n j)[k]? = some (decide (k < j) && on ns n (k : Int)) := by
  rw [hasTo, List.getElem?_map, List.getElem?_range h, Option.map_some]
theorem hasTo_set (ns : List Nd) (n : Int) (j : Nat) (h : j < ns.length) : (hasTo ns n j).set j (on ns n (j : Int)) = hasTo ns n (j + 1) := by
  apply List.ext_getElem?
  intro i
  rw [List.getElem?_set, hasTo_len]
  rcases Nat.lt_or_ge i ns.length with q | q
  · rw [hasTo_at ns n (j + 1) i q, hasTo_at ns n j i q]
    by_cases e : j = i
    · subst e
      rw [if_pos rfl, if_pos h, decide_eq_true (by omega : j < j + 1), Bool.true_and]
    · rw [if_neg e]
      by_cases e2 : i < j
      · rw [decide_eq_true e2, decide_eq_true (by omega : i < j + 1)]
      · rw [decide_eq_false e2, decide_eq_false (by omega : ¬ i < j + 1)]
  · rw [List.getElem?_eq_none (by rw [hasTo_len]; exact q), List.getElem?_eq_none (by rw [hasTo_len]; exact q)]
    by_cases e : j = i
    · omega
    · rw [if_neg e]
end Qt

structure HsSo (ns : List Nd) (n : Int) (w : World) (C4 : Array Value) (j : Int) (wr : World) : Prop where
  row : Row wr (w.heap.size + 1) (bcells (Qt.hasTo ns n j.toNat)) 4
  box : Row wr w.heap.size C4 25
  low : Below w.heap.size w wr

set_option maxHeartbeats 1000000 in
set_option maxRecDepth 4000 in
theorem qPathsWith (ns : List Nd) (an : Option Addr) (cn nb no : Nat) (ah : Option Addr) (hl ch : Nat) (ha ag n : Int) (w : World) (hN : Sl Nd.c 22 11 w an cn nb no ns) (h300 : ns.length ≤ 300) :
    Calls Try.prog 64 #[.agg #[.slice an ns.length cn, .slice ah hl ch, .int .i64 ha, .int .i64 ag], .int .i64 n] w fun e w' => e = .returned (.slice (some ⟨w.heap.size + 1, 0, none⟩) ns.length ns.length) ∧ Row w' (w.heap.size + 1) (bcells (Qt.hasTo ns n ns.length)) 4 ∧ Below w.heap.size w w' := by
  have hmk := fun w => make_bools w ns.length (by omega)
  have hpa := fun w2 (g : Below w.heap.size w w2) m hm => qParent ns an cn nb no ha ag m ah hl ch w2 (hN.kept g) hm
  have hin := fun w2 m => qIsNode (.slice an ns.length cn) (.slice ah hl ch) ns an cn ha ag m ah hl ch w2
  have hbi := fun (i : Nat) (h : i < ns.length) w0 => bool_index (w.heap.size + 1) ns.length ns.length i h w0
  have hset := fun j h => Qt.hasTo_set ns n j h
  have hat := fun j k h => Qt.hasTo_at ns n j k h
  have hon := fun m h => @Qt.on_in ns n m h
  have hup := fun m h => Qt.up_less ns m h
  have hisu := fun m h => @Qt.isIn_up ns m h
  have so0 : HsSo ns n w #[.slice an ns.length cn, .slice ah hl ch, .int .i64 ha, .int .i64 ag] 0 ((w.alloc (.cells #[.slice an ns.length cn, .slice ah hl ch, .int .i64 ha, .int .i64 ag] 25)).alloc (.cells (bcells (List.replicate ns.length false)) 4)) :=
    ⟨by
      have h := Row.new (w.alloc (.cells #[.slice an ns.length cn, .slice ah hl ch, .int .i64 ha, .int .i64 ag] 25)) (bcells (List.replicate ns.length false)) 4
      rw [World.size_alloc, ← Qt.hasTo_zero ns n] at h
      rw [← Qt.hasTo_zero ns n]
      exact h, (Row.new _ _ _).under ((Below.refl _ _).alloc (Nat.le_refl _) _), two_below _ _ _⟩
  obtain ⟨nl, hnl⟩ : ∃ n, ns.length = n := ⟨_, rfl⟩
  rw [hnl] at hmk hpa hin hbi hset hat hon hisu so0 h300 ⊢
  obtain ⟨zn, hzn⟩ : ∃ z : Int, (nl : Int) = z := ⟨_, rfl⟩
  rw [hzn] at hmk hpa hon hisu
  have HPA := Lib.hid hpa; have HIN := Lib.hid hin; have HBI := Lib.hid hbi; have HS := Lib.hid hset; have HAT := Lib.hid hat; have HON := Lib.hid hon; have HUP := Lib.hid hup; have HIU := Lib.hid hisu; have S0 := Lib.hid so0; have HZ := Lib.hid hzn; have HL := Lib.hid hnl
  clear hpa hin hbi hset hat hon hup hisu so0 hN hnl
  go_enter Try.func64, Try.ntmps64
  go_wp2_with fail
  go_loopw [15] (fun i wr => ∃ (j : Int), i = .int .i64 j ∧ 0 ≤ j ∧ j ≤ zn ∧ Hid (HsSo ns n w #[.slice an nl cn, .slice ah hl ch, .int .i64 ha, .int .i64 ag] j wr)) (fun i _ => (zn - intOf i).toNat)
  case atStart => exact ⟨0, rfl, by omega, by omega, S0.out⟩
  case round =>
    obtain ⟨j, rfl, hj0, hjz, hd⟩ := hrel
    have k0 : wr.cell? ⟨w.heap.size, 0, none⟩ = some (.slice an nl cn) := hd.out.box.at_ 0
    have k1 : wr.cell? ⟨w.heap.size, 1, none⟩ = some (.slice ah hl ch) := hd.out.box.at_ 1
    have k2 : wr.cell? ⟨w.heap.size, 2, none⟩ = some (.int .i64 ha) := hd.out.box.at_ 2
    have k3 : wr.cell? ⟨w.heap.size, 3, none⟩ = some (.int .i64 ag) := hd.out.box.at_ 3
    by_cases hlt : j < zn
    · have hst := HS.out j.toNat (by omega)
      have hon := HON.out j ⟨hj0, hlt⟩
      have hul := HUP.out j hj0
      have hiu := HIU.out j hlt
      have hc := HPA.out wr hd.out.low j ⟨hj0, hlt⟩
      obtain ⟨p, hp⟩ : ∃ p, Qt.up ns j = p := ⟨_, rfl⟩
      rw [hp] at hon hul hiu hc
      have hpat : 0 ≤ p → (Qt.hasTo ns n j.toNat)[p.toNat]? = some (Qt.on ns n p) := fun h => by
        rw [HAT.out j.toNat p.toNat (by omega), decide_eq_true (by omega : p.toNat < j.toNat), show ((p.toNat : Nat) : Int) = p by omega, Bool.true_and]
      rw [show ((j.toNat : Nat) : Int) = j by omega] at hst
      obtain ⟨V, hV⟩ : ∃ b, Qt.on ns n j = b := ⟨_, rfl⟩
      rw [hV] at hon hst
      rw [hiu] at hon
      have hi := HBI.out j.toNat (by omega)
      rw [show ((j.toNat : Nat) : Int) = j by omega] at hi
      have HC := Lib.hid hc; have HST := Lib.hid hst; have HO := Lib.hid hon; have HPT := Lib.hid hpat; have HI := Lib.hid hiu
      clear hc hst hon hpat hV hiu hp
      go_wp2_with fail
      refine HC.out.mono ?_
      rintro er w1 ⟨rfl, b1⟩
      have box1 := hd.out.box.under b1
      have row1 := hd.out.row.under b1
      have low1 := hd.out.low.trans (b1.mono hd.out.low.size)
      have q0 : w1.cell? ⟨w.heap.size, 0, none⟩ = some (.slice an nl cn) := box1.at_ 0
      have q1 : w1.cell? ⟨w.heap.size, 1, none⟩ = some (.slice ah hl ch) := box1.at_ 1
      have q2 : w1.cell? ⟨w.heap.size, 2, none⟩ = some (.int .i64 ha) := box1.at_ 2
      have q3 : w1.cell? ⟨w.heap.size, 3, none⟩ = some (.int .i64 ag) := box1.at_ 3
      have hcj : w1.cell? ⟨w.heap.size + 1, j.toNat, none⟩ = some (.bool false) := by
        rw [row1.at_, bcells_at, HAT.out j.toNat j.toNat (by omega), decide_eq_false (by omega : ¬ j.toNat < j.toNat), Bool.false_and]
        rfl
      have hfj := row1.soft j.toNat
      have BOX1 := Lib.hid box1; have ROW1 := Lib.hid row1; have LOW1 := Lib.hid low1
      clear box1 row1 low1 b1 hd k0 k1 k2 k3
      by_cases hjn : n = j
      · subst hjn
        have e := HO.out
        rw [decide_eq_true rfl, Bool.true_or] at e
        subst e
        go_wp2_with fail
        go_roundw
        case rel => exact ⟨n + 1, rfl, by omega, by omega, by
          have h := ROW1.out.set n.toNat (.bool true)
          rw [bcells_set, HST.out, show n.toNat + 1 = (n + 1).toNat by omega] at h
          exact ⟨h, BOX1.out.keep ((But.refl (w.heap.size + 1) _).setCell (p := ⟨w.heap.size + 1, _, none⟩) (.inr rfl) _) (by omega), LOW1.out.setCell (p := ⟨w.heap.size + 1, _, none⟩) (by simp) _⟩⟩
        case measure => simp [intOf]; omega
      · have e := HO.out
        rw [decide_eq_false (fun h => hjn h.symm), Bool.false_or] at e
        have hjb : (j == n) = false := by simpa using fun h => hjn h.symm
        have hin := HIN.out w1 p
        by_cases hp0 : 0 ≤ p
        · rw [HI.out, decide_eq_true hp0] at hin
          rw [decide_eq_true hp0, Bool.true_and] at e
          have hpp := HPT.out hp0
          rw [← e] at hpp
          have hip := HBI.out p.toNat (by omega)
          rw [show ((p.toNat : Nat) : Int) = p by omega] at hip
          have HIN1 := Lib.hid hin; have HPP := Lib.hid hpp; have HE := Lib.hid e
          clear hin hpp e hjn
          go_wp2_with fail
          refine HIN1.out.mono ?_
          rintro er w2 ⟨rfl, b2⟩
          have box2 := BOX1.out.under b2
          have row2 := ROW1.out.under b2
          have low2 := LOW1.out.trans (b2.mono LOW1.out.size)
          have hcp : w2.cell? ⟨w.heap.size + 1, p.toNat, none⟩ = some (.bool V) := by
            rw [row2.at_, bcells_at, HPP.out]
            rfl
          have hcj2 : w2.cell? ⟨w.heap.size + 1, j.toNat, none⟩ = some (.bool false) := (b2.cell (p := ⟨w.heap.size + 1, j.toNat, none⟩) ROW1.out.lt).trans hcj
          have hfj2 := row2.soft j.toNat
          have BOX2 := Lib.hid box2; have ROW2 := Lib.hid row2; have LOW2 := Lib.hid low2
          clear box2 row2 low2 b2 BOX1 ROW1 LOW1 q0 q1 q2 q3 hcj hfj
          go_wp2_with fail
          go_roundw
          case rel => exact ⟨j + 1, rfl, by omega, by omega, by
            have h := ROW2.out.set j.toNat (.bool V)
            rw [bcells_set, HST.out, show j.toNat + 1 = (j + 1).toNat by omega] at h
            exact ⟨h, BOX2.out.keep ((But.refl (w.heap.size + 1) _).setCell (p := ⟨w.heap.size + 1, _, none⟩) (.inr rfl) _) (by omega), LOW2.out.setCell (p := ⟨w.heap.size + 1, _, none⟩) (by simp) _⟩⟩
          case measure => simp [intOf]; omega
        · rw [HI.out, decide_eq_false hp0] at hin
          rw [decide_eq_false hp0, Bool.false_and] at e
          subst e
          have HIN1 := Lib.hid hin
          clear hin hjn
          go_wp2_with fail
          refine HIN1.out.mono ?_
          rintro er w2 ⟨rfl, b2⟩
          have box2 := BOX1.out.under b2
          have row2 := ROW1.out.under b2
          have low2 := LOW1.out.trans (b2.mono LOW1.out.size)
          have hcj2 : w2.cell? ⟨w.heap.size + 1, j.toNat, none⟩ = some (.bool false) := (b2.cell (p := ⟨w.heap.size + 1, j.toNat, none⟩) ROW1.out.lt).trans hcj
          have hfj2 := row2.soft j.toNat
          have BOX2 := Lib.hid box2; have ROW2 := Lib.hid row2; have LOW2 := Lib.hid low2
          clear box2 row2 low2 b2 BOX1 ROW1 LOW1 q0 q1 q2 q3 hcj hfj
          go_wp2_with fail
          go_roundw
          case rel => exact ⟨j + 1, rfl, by omega, by omega, by
            have h := ROW2.out.set j.toNat (.bool false)
            rw [bcells_set, HST.out, show j.toNat + 1 = (j + 1).toNat by omega] at h
            exact ⟨h, BOX2.out.keep ((But.refl (w.heap.size + 1) _).setCell (p := ⟨w.heap.size + 1, _, none⟩) (.inr rfl) _) (by omega), LOW2.out.setCell (p := ⟨w.heap.size + 1, _, none⟩) (by simp) _⟩⟩
          case measure => simp [intOf]; omega
    · have hfin : Hid (Row wr (w.heap.size + 1) (bcells (Qt.hasTo ns n nl)) 4 ∧ Below w.heap.size w wr) := Lib.hid (by
        have h := hd.out.row
        rw [show j.toNat = nl by have := HZ.out; omega] at h
        exact ⟨h, hd.out.low⟩)
      clear hd
      go_wp2_with fail
      go_ret
      exact ⟨rfl, hfin.out⟩

end Go.Proofs.Ytkakgjmajplgmaa
namespace Go.Proofs.Ytkakgjmajplgmaa
open Go.RowKit
set_option linter.unusedVariables false

theorem kChild (x : Nd) (b : Nat) (n : Int) (w : World) (hb : w.cell? ⟨b, 0, none⟩ = some (.int .i64 n)) (hl : b < w.heap.size) : Calls Try.prog 46 #[.agg x.c, .pointer (some ⟨b, 0, none⟩)] w (RetBelow (.bool (x.par == n)) w) := by
  obtain ⟨p, t, ⟨a0, a1, a2⟩, ⟨b0, b1, b2⟩, ⟨c0, c1, c2⟩⟩ := x
  simp only [Nd.c]
  have hb2 : (w.alloc (.cells #[.int .i64 p, .int .i64 t, .int .i64 a0, .int .i64 a1, .int .i64 a2, .int .i64 b0, .int .i64 b1, .int .i64 b2, .int .i64 c0, .int .i64 c1, .int .i64 c2] 42)).cell? ⟨b, 0, none⟩ = some (.int .i64 n) := (World.cell?_alloc_past (w := w) _ _ _ hl).trans hb
  go_enter Try.func46, Try.ntmps46
  go_wp2_with fail
  go_ret
  exact ⟨rfl, (Below.refl _ _).alloc (Nat.le_refl _) _⟩

/-- No node so far has the Parent n. -/
theorem kIndexFunc (ns : List Nd) (an : Option Addr) (cn nb no b : Nat) (n : Int) (w : World) (hN : Sl Nd.c 22 11 w an cn nb no ns) (hb : w.cell? ⟨b, 0, none⟩ = some (.int .i64 n)) (hl : b < w.heap.size) :
    Calls Try.prog 57 #[.slice an ns.length cn, .func (.func 46) #[] #[.pointer (some ⟨b, 0, none⟩)]] w fun e w' => ∃ v : Int, e = .returned (.int .i64 v) ∧ decide (0 ≤ v) = !(ns.all fun x => decide (x.par ≠ n)) ∧ Below w.heap.size w w' := by
  obtain ⟨F, hF⟩ : ∃ f, (ns.all fun x => decide (x.par ≠ n)) = f := ⟨_, rfl⟩
  have hno : ∀ (k : Nat) x, ns[k]? = some x → x.par = n → F = false := fun k x hx e => by
    rw [← hF, List.all_eq_false]
    exact ⟨x, List.mem_of_getElem? hx, by simp [e]⟩
  have hyes : Upto (fun x => decide (x.par ≠ n)) ns (ns.length : Int) → F = true := fun u => by rw [← hF, u.all (Int.le_refl _)]
  rw [hF]
  have hNi := hN.idx
  have n63 := hN.small
  have he : ∀ args wr, (callFunc 46 args).run Try.prog wr = .ok (.enter 46 args) wr := fun _ _ => rfl
  obtain ⟨nl, hnl⟩ : ∃ n, ns.length = n := ⟨_, rfl⟩
  rw [hnl] at hNi n63 hyes ⊢
  obtain ⟨zn, hzn⟩ : ∃ z : Int, (nl : Int) = z := ⟨_, rfl⟩
  rw [hzn] at hyes
  have HNI := Lib.hid hNi; have HN := Lib.hid hN; have HL := Lib.hid hnl; have HNO := Lib.hid hno; have HY := Lib.hid hyes; have HB := Lib.hid hb; have LB := Lib.hid hl
  clear hNi hN hnl hno hyes hF hb hl
  go_enter Try.func57, Try.ntmps57
  go_wp2_with fail
  go_loopw [8] (fun i wr => ∃ (j : Int), i = .int .i64 j ∧ 0 ≤ j ∧ j ≤ zn ∧ Hid (Upto (fun x => decide (x.par ≠ n)) ns j ∧ Below w.heap.size w wr)) (fun i _ => (zn - intOf i).toNat)
  case atStart => exact ⟨0, rfl, by omega, by omega, Upto.zero _ _, Below.refl _ _⟩
  case round =>
    obtain ⟨j, rfl, hj0, hjz, hd⟩ := hrel
    by_cases hlt : j < zn
    · obtain ⟨x, hx⟩ : ∃ x, ns[j.toNat]? = some x := ⟨_, List.getElem?_eq_getElem (by have := HL.out; omega)⟩
      have hi := HNI.out j.toNat (by omega)
      rw [show ((j.toNat : Nat) : Int) = j by omega] at hi
      have hr := (HN.out.kept hd.out.2).at_ j.toNat x hx
      have hcc := fun w => kChild x b n w
      obtain ⟨oi, hoi⟩ : ∃ n, no + j.toNat * 11 = n := ⟨_, rfl⟩
      rw [hoi] at hi hr
      have e1 := fun h => HNO.out j.toNat x hx h
      have e2 := fun h => hd.out.1.succ hj0 hx h
      obtain ⟨p, t, ⟨a0, a1, a2⟩, ⟨b0, b1, b2⟩, ⟨c0, c1, c2⟩⟩ := x
      simp only [Nd.c] at hr e1 e2 hcc
      have CC := Lib.hid (hcc wr ((hd.out.2.cell (p := ⟨b, 0, none⟩) LB.out).trans HB.out) (Nat.lt_of_lt_of_le LB.out hd.out.2.size))
      have G := Lib.hid hd.out.2; have E1 := Lib.hid e1; have E2 := Lib.hid e2
      have f0 : wr.cell? ⟨nb, oi, none⟩ = some (.int .i64 p) := hr 0 _ rfl
      have f1 : wr.cell? ⟨nb, oi + 1, none⟩ = some (.int .i64 t) := hr 1 _ rfl
      have f2 : wr.cell? ⟨nb, oi + 2, none⟩ = some (.int .i64 a0) := hr 2 _ rfl
      have f3 : wr.cell? ⟨nb, oi + 3, none⟩ = some (.int .i64 a1) := hr 3 _ rfl
      have f4 : wr.cell? ⟨nb, oi + 4, none⟩ = some (.int .i64 a2) := hr 4 _ rfl
      have f5 : wr.cell? ⟨nb, oi + 5, none⟩ = some (.int .i64 b0) := hr 5 _ rfl
      have f6 : wr.cell? ⟨nb, oi + 6, none⟩ = some (.int .i64 b1) := hr 6 _ rfl
      have f7 : wr.cell? ⟨nb, oi + 7, none⟩ = some (.int .i64 b2) := hr 7 _ rfl
      have f8 : wr.cell? ⟨nb, oi + 8, none⟩ = some (.int .i64 c0) := hr 8 _ rfl
      have f9 : wr.cell? ⟨nb, oi + 9, none⟩ = some (.int .i64 c1) := hr 9 _ rfl
      have f10 : wr.cell? ⟨nb, oi + 10, none⟩ = some (.int .i64 c2) := hr 10 _ rfl
      clear hr hx hoi hcc e1 e2 hd
      go_wp2_with fail
      refine CC.out.mono ?_
      rintro er w2 ⟨rfl, b2⟩
      have G2 := Lib.hid (below_trans G.out b2)
      clear b2 f0 f1 f2 f3 f4 f5 f6 f7 f8 f9 f10
      by_cases e : p = n
      · have hf := E1.out e
        subst hf
        have eb : (p == n) = true := by simpa using e
        rw [eb]
        clear eb e
        go_wp2_with fail
        go_ret
        exact ⟨j, rfl, by rw [decide_eq_true hj0]; rfl, G2.out⟩
      · have hf := E2.out (by simpa using e)
        have HF := Lib.hid hf
        have eb : (p == n) = false := by simpa using e
        rw [eb]
        clear eb e hf
        go_wp2_with fail
        go_roundw
        case rel => exact ⟨j + 1, rfl, by omega, by omega, HF.out, G2.out⟩
        case measure => simp [intOf]; omega
    · have hf := HY.out (by rw [show zn = j by omega]; exact hd.out.1)
      subst hf
      have G2 := Lib.hid hd.out.2
      clear hd
      go_wp2_with fail
      go_ret
      exact ⟨-1, rfl, by simp, G2.out⟩

theorem kContains (ns : List Nd) (an : Option Addr) (cn nb no b : Nat) (n : Int) (w : World) (hN : Sl Nd.c 22 11 w an cn nb no ns) (hb : w.cell? ⟨b, 0, none⟩ = some (.int .i64 n)) (hl : b < w.heap.size) :
    Calls Try.prog 48 #[.slice an ns.length cn, .func (.func 46) #[] #[.pointer (some ⟨b, 0, none⟩)]] w (RetBelow (.bool (!(ns.all fun x => decide (x.par ≠ n)))) w) := by
  have C := Lib.hid (kIndexFunc ns an cn nb no b n w hN hb hl)
  clear hN hb hl
  go_enter Try.func48, Try.ntmps48
  go_wp2_with fail
  refine C.out.mono ?_
  rintro er w1 ⟨v, rfl, hv, b1⟩
  have HV := Lib.hid hv; have B1 := Lib.hid b1
  clear hv b1 C
  go_wp2_with fail
  go_ret
  exact ⟨by rw [← HV.out]; rfl, B1.out⟩

set_option maxHeartbeats 400000 in
theorem kLeaf (c : Cmd) (vn vh : Value) (n : Int) (w : World) (hn64 : In64 n) (h300 : c.nodes.length ≤ 300) (h : CmAt c vn vh w) : Calls Try.prog 29 #[.agg (c.f vn vh), .int .i64 n] w (RetBelow (.bool (Cf.leaf c.nodes n)) w) := by
  obtain ⟨an, cn, nb, no, ah, ch, hb, ho, rfl, rfl, s1, s2⟩ := h
  have hmf : ∀ (fn : Fn) (first cap : Array Value) (w : World), (Instr.makeFunc fn first cap).run Try.prog w = .ok (.func fn first cap) w := fun _ _ _ _ => rfl
  have c2 := fun b w2 (g : Below w.heap.size w w2) => kContains c.nodes an cn nb no b n w2 (s1.kept g)
  have hlf : Cf.leaf c.nodes n = (decide (0 ≤ n ∧ n ≤ (c.nodes.length : Int) - 1) && c.nodes.all fun x => decide (x.par ≠ n)) := by
    unfold Cf.leaf
    congr 1
    rw [Bool.eq_iff_iff, decide_eq_true_iff, decide_eq_true_iff]
    omega
  rw [hlf]
  obtain ⟨A, hA⟩ : ∃ f, (c.nodes.all fun x => decide (x.par ≠ n)) = f := ⟨_, rfl⟩
  rw [hA] at c2 ⊢
  obtain ⟨kind, nodes, hosts, half, age, g, k⟩ := c
  simp only [Cmd.f] at *
  obtain ⟨nl, hnl⟩ : ∃ n, nodes.length = n := ⟨_, rfl⟩
  obtain ⟨hl, hhl⟩ : ∃ n, hosts.length = n := ⟨_, rfl⟩
  rw [hnl] at c2 h300 ⊢
  rw [hhl]
  obtain ⟨zn, hzn⟩ : ∃ z : Int, (nl : Int) = z := ⟨_, rfl⟩
  rw [hzn]
  have hsub : IntKind.i64.wrap (zn - 1) = zn - 1 := by rw [IntKind.wrap_i64]; omega
  have hw := fun w => kWithin n 0 (zn - 1) w
  have C2 := Lib.hid c2
  clear c2 hA s1 s2 hnl hhl hlf hn64
  have G0 := Lib.hid (two_below w (.cells #[.slice an nl cn, .slice ah hl ch, .int .i64 half, .int .i64 age] 25) (.cells #[.int .i64 n] 3))
  have B0 : ((w.alloc (.cells #[.slice an nl cn, .slice ah hl ch, .int .i64 half, .int .i64 age] 25)).alloc (.cells #[.int .i64 n] 3)).cell? ⟨w.heap.size + 1, 0, none⟩ = some (.int .i64 n) := World.cell?_alloc_at (w := w.alloc (.cells #[.slice an nl cn, .slice ah hl ch, .int .i64 half, .int .i64 age] 25)) _ _ _ 0 (by simp)
  have L0 : w.heap.size + 1 < ((w.alloc (.cells #[.slice an nl cn, .slice ah hl ch, .int .i64 half, .int .i64 age] 25)).alloc (.cells #[.int .i64 n] 3)).heap.size := by rw [World.size_alloc, World.size_alloc]; omega
  have CC := Lib.hid (C2.out (w.heap.size + 1) _ G0.out B0 L0)
  clear B0 L0 C2
  by_cases h1 : 0 ≤ n ∧ n ≤ zn - 1
  · rw [decide_eq_true h1] at hw ⊢
    have WI := Lib.hid hw
    clear hw h1
    go_enter Try.func29, Try.ntmps29
    go_wp2_with fail
    refine (WI.out _).mono ?_
    rintro er w2 ⟨rfl, rfl⟩
    go_wp2_with fail
    refine CC.out.mono ?_
    rintro er w2 ⟨rfl, b2⟩
    have G2 := Lib.hid (below_trans G0.out b2)
    clear b2
    go_wp2_with fail
    go_ret
    exact ⟨by cases A <;> rfl, G2.out⟩
  · rw [decide_eq_false h1] at hw ⊢
    have WI := Lib.hid hw
    clear hw h1
    go_enter Try.func29, Try.ntmps29
    go_wp2_with fail
    refine (WI.out _).mono ?_
    rintro er w2 ⟨rfl, rfl⟩
    go_wp2_with fail
    go_ret
    exact ⟨rfl, G0.out⟩

end Go.Proofs.Ytkakgjmajplgmaa
namespace Go.Proofs.Ytkakgjmajplgmaa
open Go.RowKit
set_option linter.unusedVariables false

namespace Cf
/-- The tenants among the first j nodes. -/
def leavesTo (ns : List Nd) (j : Nat) : List Int := ((List.range j).map fun i : Nat => (i : Int)).filter (leaf ns)
theorem leavesTo_yes {ns : List Nd} {j : Nat} (h : leaf ns (j : Int) = true) : leavesTo ns (j + 1) = leavesTo ns j ++ [(j : Int)] := by
  unfold leavesTo
  rw [List.range_succ, List.map_append, List.filter_append]
  simp [h]
theorem leavesTo_no {ns : List Nd} {j : Nat} (h : leaf ns (j : Int) = false) : leavesTo ns (j + 1) = leavesTo ns j := by
  unfold leavesTo
  rw [List.range_succ, List.map_append, List.filter_append]
  simp [h]
theorem leavesTo_len (ns : List Nd) (j : Nat) : (leavesTo ns j).length ≤ j := by
  unfold leavesTo
  refine Nat.le_trans (List.length_filter_le _ _) ?_
  simp
end Cf

/-- The tenants so far. -/
structure KlSo (ns : List Nd) (w : World) (B base : Nat) (j : Int) (v : Value) (wr : World) : Prop where
  row : wr.ownsRow base 3 1 v (Cf.leavesTo ns j.toNat).length (cellsOf iC (Cf.leavesTo ns j.toNat))
  bools : Row wr B (bcells (Cf.pars ns)) 4
  low : Below w.heap.size w wr
  base_le : base ≤ wr.heap.size
  above : w.heap.size ≤ base
  apart : B < base

set_option maxHeartbeats 1000000 in
set_option maxRecDepth 4000 in
theorem kLeavesOwn (c : Cmd) (vn vh : Value) (w : World) (h300 : c.nodes.length ≤ 300) (h : CmAt c vn vh w) : Calls Try.prog 65 #[.agg (c.f vn vh)] w fun e w' => ∃ v, e = .returned v ∧ w'.ownsRow w.heap.size 3 1 v (Cf.leaves c.nodes).length (cellsOf iC (Cf.leaves c.nodes)) ∧ Below w.heap.size w w' := by
  obtain ⟨an, cn, nb, no, ah, ch, hb, ho, rfl, rfl, s1, s2⟩ := h
  have hpa := fun w2 (g : Below w.heap.size w w2) => kParents c.nodes an cn nb no w2 (s1.kept g) h300
  obtain ⟨kind, ns, hosts, half, age, g, k⟩ := c
  simp only [Cmd.f] at *
  obtain ⟨R, hR⟩ : ∃ r, Cf.leaves ns = r := ⟨_, rfl⟩
  have hend : ∀ j : Int, j = ns.length → Cf.leavesTo ns j.toNat = R := fun j h => by rw [h, ← hR]; rfl
  rw [hR]
  obtain ⟨nl, hnl⟩ : ∃ n, ns.length = n := ⟨_, rfl⟩
  obtain ⟨hl, hhl⟩ : ∃ n, hosts.length = n := ⟨_, rfl⟩
  rw [hnl] at hpa h300 hend ⊢
  rw [hhl]
  obtain ⟨zn, hzn⟩ : ∃ z : Int, (nl : Int) = z := ⟨_, rfl⟩
  have PA := Lib.hid hpa; have HE := Lib.hid hend; have HL := Lib.hid hnl; have HZ := Lib.hid hzn
  clear hpa hend hR s1 s2 hnl hhl
  have G0 := Lib.hid ((Below.refl w.heap.size w).alloc (Nat.le_refl _) (.cells #[.slice an nl cn, .slice ah hl ch, .int .i64 half, .int .i64 age] 25))
  have Z0 := Lib.hid (World.size_alloc w (.cells #[.slice an nl cn, .slice ah hl ch, .int .i64 half, .int .i64 age] 25))
  go_enter Try.func65, Try.ntmps65
  go_wp2_with fail
  refine (PA.out _ G0.out).mono ?_
  rintro er w1 ⟨rfl, r1, b1⟩
  rw [Z0.out] at r1 ⊢
  have hbi := fun (i : Nat) (h : i < nl) w0 => bool_index (w.heap.size + 1) nl nl i h w0
  have S0 := Lib.hid (show KlSo ns w (w.heap.size + 1) w1.heap.size 0 (.slice none 0 0) w1 from ⟨World.ownsRow_nil _ _ _ _, r1, below_trans G0.out b1, Nat.le_refl _, (below_trans G0.out b1).size, r1.lt⟩)
  have HBI := Lib.hid hbi
  clear r1 b1 hbi
  go_wp2_with fail
  go_loopw [3, 10] (fun vv i wr => ∃ (j : Int), i = .int .i64 j ∧ 0 ≤ j ∧ j ≤ zn ∧ Hid (KlSo ns w (w.heap.size + 1) w1.heap.size j vv wr)) (fun _ i _ => (zn - intOf i).toNat)
  case atStart => exact ⟨0, rfl, by omega, by omega, S0.out⟩
  case round =>
    obtain ⟨j, rfl, hj0, hjz, hd⟩ := hrel
    obtain ⟨ao, ln, cp, rfl⟩ := own_form hd.out.row
    by_cases hlt : j < zn
    · have hib := HBI.out j.toNat (by omega)
      have hcb : wr.cell? ⟨w.heap.size + 1, j.toNat, none⟩ = some (.bool (!Cf.leaf ns j)) := by
        rw [hd.out.bools.at_, bcells_at, Cf.pars_at ns j.toNat (by have := HL.out; have := HZ.out; omega), show ((j.toNat : Nat) : Int) = j by omega]
        rfl
      rw [show ((j.toNat : Nat) : Int) = j by omega] at hib
      have hyes := @Cf.leavesTo_yes ns j.toNat
      have hno := @Cf.leavesTo_no ns j.toNat
      rw [show ((j.toNat : Nat) : Int) = j by omega] at hyes hno
      obtain ⟨L, hL⟩ : ∃ b, Cf.leaf ns j = b := ⟨_, rfl⟩
      rw [hL] at hcb hyes hno
      have hlen := Cf.leavesTo_len ns j.toNat
      cases L
      · have e := Lib.hid (hno rfl)
        clear hyes hno hL hlen
        go_wp2_with fail
        go_roundw
        case rel => exact ⟨j + 1, rfl, by omega, by omega, ⟨by rw [show (j + 1).toNat = j.toNat + 1 by omega, e.out]; exact hd.out.row, hd.out.bools, hd.out.low, hd.out.base_le, hd.out.above, hd.out.apart⟩⟩
        case measure => simp [intOf]; omega
      · have he := hyes rfl
        obtain ⟨l, hl⟩ : ∃ l, Cf.leavesTo ns j.toNat = l := ⟨_, rfl⟩
        have own := hd.out.row
        rw [hl] at own he hlen
        obtain ⟨v', w3, hrun, own3, gr3⟩ := int_append (wr.alloc (.cells #[.int .i64 j] 3)) w1.heap.size (.slice ao ln cp) l j (by have := HZ.out; omega) wr.heap.size (World.ownsRow.alloc own _) (Row.new wr _ _) (by rw [World.size_alloc]; have := hd.out.base_le; omega)
        obtain ⟨ao', ln', cp', rfl⟩ := own_form own3
        have boo3 := Row.grown ((hd.out.bools).under ((Below.refl _ _).alloc (Nat.le_refl wr.heap.size) (.cells #[.int .i64 j] 3))) gr3 (fun e => by have := (own.lt _ e).1; have := hd.out.apart; omega)
        have low3 : Below w.heap.size w w3 := Below.grown (hd.out.low.alloc hd.out.low.size _) gr3 (by rw [World.size_alloc]; have := hd.out.low.size; omega) (fun k hk => by have := (own.lt k hk).1; have := hd.out.above; omega)
        have bas3 : w1.heap.size ≤ w3.heap.size := by have := gr3.size; rw [World.size_alloc] at this; have := hd.out.base_le; omega
        rw [← he] at own3
        have SO := Lib.hid (show KlSo ns w (w.heap.size + 1) w1.heap.size (j + 1) (.slice ao' ln' cp') w3 from ⟨by rw [show (j + 1).toNat = j.toNat + 1 by omega]; exact own3, boo3, low3, bas3, hd.out.above, hd.out.apart⟩)
        have HRUN := Lib.hid hrun
        clear hyes hno hL hlen hrun own own3 gr3 boo3 low3 bas3 he hl hd
        go_wp2_with (first | (at_builtin; refine wpList_append_by rfl _ _ _ _ rfl _ _ _ _ rfl rfl HRUN.out ?_) | fail)
        go_roundw
        case rel => exact ⟨j + 1, rfl, by omega, by omega, SO.out⟩
        case measure => simp [intOf]; omega
    · have own := hd.out.row
      rw [HE.out j (by have := HZ.out; omega)] at own
      have S := Lib.hid (own_base own hd.out.above); have L := Lib.hid hd.out.low
      clear hd own
      go_wp2_with fail
      go_ret
      exact ⟨_, rfl, S.out, L.out⟩

theorem kLeaves (c : Cmd) (vn vh : Value) (w : World) (h300 : c.nodes.length ≤ 300) (h : CmAt c vn vh w) : Calls Try.prog 65 #[.agg (c.f vn vh)] w fun e w' => ∃ (ao : Option Addr) (cap bb oo : Nat),
    e = .returned (.slice ao (Cf.leaves c.nodes).length cap) ∧ Sl intC 36 1 w' ao cap bb oo (Cf.leaves c.nodes) ∧ Below w.heap.size w w' :=
  (kLeavesOwn c vn vh w h300 h).mono fun e w' ⟨v, he, own, b⟩ => by
    obtain ⟨ao, cap, bb, e1, s1⟩ := own_slice iC 36 (k := 1) (fun x => rfl) own (fun b len cap i hi w0 => int_index b len cap i hi w0)
    subst e1
    exact ⟨ao, cap, bb, 0, he, s1, b⟩

end Go.Proofs.Ytkakgjmajplgmaa
