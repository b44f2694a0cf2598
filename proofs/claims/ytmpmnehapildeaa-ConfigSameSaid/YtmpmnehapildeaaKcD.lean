/- The landed configuration: which nodes are Parents. -/
import Derived.Test.YtmpmnehapildeaaKcB
namespace Go.Proofs.Ytmpmnehapildeaa
open Go.RowKit
set_option linter.unusedVariables false

/-- A row of answers. -/
def bcells (l : List Bool) : Array Value := (l.map Value.bool).toArray
theorem bcells_at (l : List Bool) (i : Nat) : (bcells l)[i]? = (l[i]?).map Value.bool := by simp [bcells]
theorem bcells_set (l : List Bool) (i : Nat) (b : Bool) : (bcells l).setIfInBounds i (.bool b) = bcells (l.set i b) := by
  unfold bcells
  rw [List.setIfInBounds_toArray, List.map_set]
theorem bool_index (b len cap i : Nat) (hi : i < len) (w0 : World) : (Instr.indexAt 50 (.slice (some ⟨b, 0, none⟩) len cap) (.int .i64 (i : Int))).run Try.prog w0 = .ok (.pointer (some ⟨b, i, none⟩)) w0 := by
  have e : (⟨b, 0, none⟩ : Addr).add i = ⟨b, i, none⟩ := by unfold Addr.add; split <;> simp_all
  have h : (0 : Int) ≤ (i : Int) ∧ (i : Int) < (len : Int) := by omega
  simp [Instr.indexAt, run_underlying Try.underlying50, asIntOf, hi, e]
theorem bool_info : (Try.prog.info? 4).map (fun i => (i.zero, i.size, i.bytes)) = some (some (.bool false), 1, 1) := by kernel_rfl
theorem make_bools (w : World) (n : Nat) (hn : n ≤ 1000) : (Instr.makeSlice 50 (.int .i64 (n : Int)) (.int .i64 (n : Int))).run Try.prog w = .ok (.slice (some ⟨w.heap.size, 0, none⟩) n n) (w.alloc (.cells (bcells (List.replicate n false)) 4)) := by
  obtain ⟨i, hi, hz, hs, hb⟩ := info_parts bool_info
  have h := run_make (P := Try.prog) w 50 4 i _ Try.underlying50 hi hz .i64 .i64 n n (by omega) (by omega) (by rw [hb]; omega) (by omega)
  have e : madeCells (Value.bool false).cells (n * 1) = bcells (List.replicate n false) := by
    apply Array.toList_inj.1
    apply List.ext_getElem?
    intro j
    by_cases h : j < n <;> simp [madeCells, Value.cells, bcells, h, Nat.mod_one]
  rw [hs, Int.toNat_natCast, e] at h
  exact h

namespace Cf
/-- Of each node: is it a Parent of one of the first j? -/
def parTo (ns : List Nd) (j : Nat) : List Bool := (List.range ns.length).map fun k : Nat => (ns.take j).any fun x => decide (x.par = (k : Int))
theorem parTo_len (ns : List Nd) (j : Nat) : (parTo ns j).length = ns.length := by simp [parTo]
theorem parTo_zero (ns : List Nd) : parTo ns 0 = List.replicate ns.length false := by
  unfold parTo
  have h : (fun k : Nat => (ns.take 0).any fun x => decide (x.par = (k : Int))) = fun _ => false := by funext k; simp
  rw [h, List.map_const', List.length_range]
theorem parTo_at (ns : List Nd) (j k : Nat) (h : k < ns.length) : (parTo ns j)[k]? = some ((ns.take j).any fun x => decide (x.par = (k : Int))) := by
  rw [parTo, List.getElem?_map, List.getElem?_range h, Option.map_some]
theorem take_snoc {ns : List Nd} {j : Nat} {x : Nd} (hx : ns[j]? = some x) : ns.take (j + 1) = ns.take j ++ [x] := by rw [List.take_add_one, hx]; rfl
theorem parTo_set {ns : List Nd} {j k : Nat} {x : Nd} (hx : ns[j]? = some x) (hk : x.par = (k : Int)) (hl : k < ns.length) : (parTo ns j).set k true = parTo ns (j + 1) := by
  apply List.ext_getElem?
  intro i
  rw [List.getElem?_set, parTo_len]
  rcases Nat.lt_or_ge i ns.length with q | q
  · rw [parTo_at ns (j + 1) i q, parTo_at ns j i q, take_snoc hx]
    by_cases e : k = i
    · subst e
      rw [if_pos rfl, if_pos hl]
      simp [hk]
    · rw [if_neg e]
      have : ¬ x.par = (i : Int) := by omega
      simp [this]
  · rw [List.getElem?_eq_none (by rw [parTo_len]; exact q), List.getElem?_eq_none (by rw [parTo_len]; exact q)]
    by_cases e : k = i
    · omega
    · rw [if_neg e]
theorem parTo_out {ns : List Nd} {j : Nat} {x : Nd} (hx : ns[j]? = some x) (hk : ¬ (0 ≤ x.par ∧ x.par ≤ (ns.length : Int) - 1)) : parTo ns j = parTo ns (j + 1) := by
  apply List.ext_getElem?
  intro i
  rcases Nat.lt_or_ge i ns.length with q | q
  · rw [parTo_at ns (j + 1) i q, parTo_at ns j i q, take_snoc hx]
    have : ¬ x.par = (i : Int) := by omega
    simp [this]
  · rw [List.getElem?_eq_none (by rw [parTo_len]; exact q), List.getElem?_eq_none (by rw [parTo_len]; exact q)]
/-- Of each node: is it a Parent? -/
def pars (ns : List Nd) : List Bool := parTo ns ns.length
theorem pars_len (ns : List Nd) : (pars ns).length = ns.length := parTo_len _ _
theorem pars_at (ns : List Nd) (k : Nat) (h : k < ns.length) : (pars ns)[k]? = some (!leaf ns (k : Int)) := by
  rw [pars, parTo_at ns _ k h, List.take_length]
  congr 1
  rw [leaf, decide_eq_true (by omega), Bool.true_and]
  induction ns with
  | nil => rfl
  | cons x l ih =>
    clear ih h
    rw [Bool.eq_iff_iff]
    simp
end Cf

/-- The answers so far. -/
structure PaTo (ns : List Nd) (w : World) (j : Int) (wr : World) : Prop where
  row : Row wr w.heap.size (bcells (Cf.parTo ns j.toNat)) 4
  low : Below w.heap.size w wr

set_option maxHeartbeats 1000000 in
set_option maxRecDepth 4000 in
theorem kParents (ns : List Nd) (an : Option Addr) (cn nb no : Nat) (w : World) (hN : Sl Nd.c 22 11 w an cn nb no ns) (h3 : ns.length ≤ 300) :
    Calls Try.prog 24 #[.slice an ns.length cn] w fun e w' => e = .returned (.slice (some ⟨w.heap.size, 0, none⟩) ns.length ns.length) ∧ Row w' w.heap.size (bcells (Cf.pars ns)) 4 ∧ Below w.heap.size w w' := by
  have hNi := hN.idx
  have hmk := make_bools w ns.length (by omega)
  have so0 : PaTo ns w 0 (w.alloc (.cells (bcells (List.replicate ns.length false)) 4)) := ⟨by rw [show (0 : Int).toNat = 0 from rfl, Cf.parTo_zero]; exact Row.new _ _ _, (Below.refl _ _).alloc (Nat.le_refl _) _⟩
  have hend : ∀ j : Int, j = ns.length → Cf.parTo ns j.toNat = Cf.pars ns := fun j h => by rw [h]; rfl
  have hset := fun j k x h1 h2 h3 => @Cf.parTo_set ns j k x h1 h2 h3
  have hout := fun j x h1 h2 => @Cf.parTo_out ns j x h1 h2
  obtain ⟨nl, hnl⟩ : ∃ n, ns.length = n := ⟨_, rfl⟩
  rw [hnl] at hNi hmk h3 so0 hend hset hout ⊢
  obtain ⟨zn, hzn⟩ : ∃ z : Int, (nl : Int) = z := ⟨_, rfl⟩
  have hbi := fun (i : Nat) (h : i < nl) w0 => bool_index w.heap.size nl nl i h w0
  obtain ⟨W, hW⟩ : ∃ W, w.alloc (.cells (bcells (List.replicate nl false)) 4) = W := ⟨_, rfl⟩
  rw [hW] at hmk so0
  simp only [hzn] at hmk
  have HNI := Lib.hid hNi; have HN := Lib.hid hN; have HL := Lib.hid hnl; have S0 := Lib.hid so0; have HE := Lib.hid hend; have HS := Lib.hid hset; have HO := Lib.hid hout; have HZ := Lib.hid hzn; have HBI := Lib.hid hbi
  have hsub : IntKind.i64.wrap (zn - 1) = zn - 1 := by rw [IntKind.wrap_i64]; omega
  clear hNi hN hnl so0 hend hset hout hW hbi
  go_enter Try.func24, Try.ntmps24
  go_wp2_with fail
  clear hmk
  go_loopw [11] (fun i wr => ∃ (j : Int), i = .int .i64 j ∧ 0 ≤ j ∧ j ≤ zn ∧ Hid (PaTo ns w j wr)) (fun i _ => (zn - intOf i).toNat)
  case atStart => exact ⟨0, rfl, by omega, by omega, S0.out⟩
  case round =>
    obtain ⟨j, rfl, hj0, hjz, hd⟩ := hrel
    by_cases hlt : j < zn
    · obtain ⟨x, hx⟩ : ∃ x, ns[j.toNat]? = some x := ⟨_, List.getElem?_eq_getElem (by have := HL.out; omega)⟩
      have hi := HNI.out j.toNat (by omega)
      rw [show ((j.toNat : Nat) : Int) = j by omega] at hi
      have hr := (HN.out.kept hd.out.low).at_ j.toNat x hx
      have e1 := fun k h1 h2 => HS.out j.toNat k x hx h1 h2
      have e2 := fun h1 => HO.out j.toNat x hx h1
      rw [HZ.out] at e2
      obtain ⟨p, t, ⟨a0, a1, a2⟩, ⟨b0, b1, b2⟩, ⟨c0, c1, c2⟩⟩ := x
      simp only [Nd.c] at hr e1 e2
      have hwi := fun w => kWithin p 0 (zn - 1) w
      have HR := Lib.hid hr; have E1 := Lib.hid e1; have E2 := Lib.hid e2
      clear hr e1 e2 hx
      obtain ⟨oi, hoi⟩ : ∃ n, no + j.toNat * 11 = n := ⟨_, rfl⟩
      rw [hoi] at hi HR
      clear hoi
      have hf0 : (wr.alloc (.cells #[.int .i64 p, .int .i64 t, .int .i64 a0, .int .i64 a1, .int .i64 a2, .int .i64 b0, .int .i64 b1, .int .i64 b2, .int .i64 c0, .int .i64 c1, .int .i64 c2] 35)).cell? ⟨wr.heap.size, 0, none⟩ = some (.int .i64 p) := (World.cell?_alloc_at (w := wr) _ _ _ 0 rfl)
      have g1 := (Below.refl wr.heap.size wr).alloc (Nat.le_refl _) (.cells #[.int .i64 p, .int .i64 t, .int .i64 a0, .int .i64 a1, .int .i64 a2, .int .i64 b0, .int .i64 b1, .int .i64 b2, .int .i64 c0, .int .i64 c1, .int .i64 c2] 35)
      have R1 := Lib.hid (hd.out.row.under g1); have L1 := Lib.hid (below_trans hd.out.low (g1.mono (Nat.le_refl _)))
      go_upto_region 5 with (first | (refine wpList_load_mid rfl 35 _ rfl nb oi rfl _ _ HR.out Try.underlying35 rfl node_len ?_) | fail)
      obtain ⟨WW, hWW⟩ : ∃ W, wr.alloc (.cells #[.int .i64 p, .int .i64 t, .int .i64 a0, .int .i64 a1, .int .i64 a2, .int .i64 b0, .int .i64 b1, .int .i64 b2, .int .i64 c0, .int .i64 c1, .int .i64 c2] 35) = W := ⟨_, rfl⟩
      rw [hWW] at R1 L1 hf0 ⊢
      clear hWW g1
      by_cases hp : 0 ≤ p ∧ p ≤ zn - 1
      · rw [decide_eq_true hp] at hwi
        obtain ⟨k, hk⟩ : ∃ k : Nat, p = (k : Int) := ⟨p.toNat, by omega⟩
        subst hk
        have hbi := HBI.out k (by omega)
        have WI := Lib.hid hwi
        have hfz : WW.frozen? ⟨w.heap.size, k, none⟩ = false := R1.out.soft k
        have hold : ∃ v : Bool, WW.cell? ⟨w.heap.size, k, none⟩ = some (.bool v) :=
          ⟨(ns.take j.toNat).any fun x => decide (x.par = (k : Int)), by rw [R1.out.at_ k, bcells_at, Cf.parTo_at ns j.toNat k (by have := HL.out; omega)]; rfl⟩
        obtain ⟨vo, hvo⟩ := hold
        have R2 := R1.out.set k (.bool true)
        rw [bcells_set, E1.out k rfl (by omega)] at R2
        have L2 := Lib.hid (L1.out.trans (((But.refl w.heap.size WW).setCell (p := ⟨w.heap.size, k, none⟩) (.inr rfl) (.bool true)).below (Nat.le_refl _) L1.out.size))
        have R2' := Lib.hid R2
        clear hwi R2
        go_wp2_with fail
        refine (WI.out _).mono ?_
        rintro er w2 ⟨rfl, rfl⟩
        go_wp2_with fail
        go_roundw
        case rel => exact ⟨j + 1, rfl, by omega, by omega, by rw [show (j + 1).toNat = j.toNat + 1 by omega]; exact R2'.out, L2.out⟩
        case measure => simp [intOf]; omega
      · rw [decide_eq_false hp] at hwi
        have WI := Lib.hid hwi
        have e := E2.out hp
        have E := Lib.hid e
        clear hwi e hp
        go_wp2_with fail
        refine (WI.out _).mono ?_
        rintro er w2 ⟨rfl, rfl⟩
        go_wp2_with fail
        go_roundw
        case rel => exact ⟨j + 1, rfl, by omega, by omega, by rw [show (j + 1).toNat = j.toNat + 1 by omega, ← E.out]; exact R1.out, L1.out⟩
        case measure => simp [intOf]; omega
    · have he := HE.out j (by have := HZ.out; omega)
      have R1 := hd.out.row
      rw [he] at R1
      have R := Lib.hid R1
      have L := Lib.hid hd.out.low
      clear R1 he hd
      go_wp2_with fail
      go_ret
      exact ⟨rfl, R.out, L.out⟩

end Go.Proofs.Ytmpmnehapildeaa
