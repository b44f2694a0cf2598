/- The landed ledger: what it holds; is this a tenant; what one uses. -/
import Derived.Test.YtkaikekibmgmmaaKuV
import Derived.Test.YtkaikekibmgmmaaZb
import Derived.Test.YtkaikekibmgmmaaZa
import Derived.Test.YtkaikekibmgmmaaLgA
import Derived.Test.YtkaikekibmgmmaaMp
import Derived.Maps.OwnOps
import Derived.Maps.Own
import Derived.Maps.OwnSet
namespace Go.Proofs.Ytkaikekibmgmmaa
open Go.RowKit
set_option linter.unusedVariables false

namespace Lg
/-- The nodes' Parents alone. -/
def bare (x : Nd) : Nd := ⟨x.par, 0, Qt.z3, Qt.z3, Qt.z3⟩
theorem bare_nd (ns : List Nd) (n : Int) : Qt.nd (ns.map bare) n = bare (Qt.nd ns n) := by
  unfold Qt.nd
  rw [List.getD_eq_getElem?_getD, List.getD_eq_getElem?_getD, List.getElem?_map]
  cases ns[n.toNat]? <;> rfl
theorem bare_pathTo (ns : List Nd) : ∀ (f : Nat) (n : Int) (l : List Int), Qt.pathTo (ns.map bare) f n l = Qt.pathTo ns f n l
  | 0, n, l => rfl
  | f + 1, n, l => by
    rw [Qt.pathTo, Qt.pathTo, bare_nd, List.length_map, bare_pathTo ns f]
    rfl
theorem bare_path (ns : List Nd) (n : Int) : Qt.path (ns.map bare) n = Qt.path ns n := bare_pathTo ns _ _ _
theorem bare_leaf (ns : List Nd) (n : Int) : Cf.leaf (ns.map bare) n = Cf.leaf ns n := by
  unfold Cf.leaf
  rw [List.length_map, List.all_map]
  rfl
/-- What one uses, if it is not nothing. -/
def use (L : List V3) (n : Int) : Option V3 := if Qt.ath L n = Qt.z3 then none else some (Qt.ath L n)
theorem use_get (L : List V3) (n : Int) : (((use L n).map fun v : V3 => Value.agg v.c).getD (.agg Qt.z3.c)) = .agg (Qt.ath L n).c := by
  unfold use
  split
  · rename_i h; rw [h]; rfl
  · rfl
theorem use_set {L : List V3} {n : Int} (h : 0 ≤ n ∧ n < L.length) (v : V3) : use (L.set n.toNat v) = Mp.upd (use L) n (if v = Qt.z3 then none else some v) := by
  funext b
  unfold use Mp.upd
  rw [ath_set h]
  by_cases e : b = n
  · rw [if_pos e, if_pos e]
  · rw [if_neg e, if_neg e]
theorem use_zero (k : Nat) : use (List.replicate k Qt.z3) = fun _ => none := by
  funext b
  unfold use
  rw [if_pos]
  unfold Qt.ath
  split
  · rw [List.getD_eq_getElem?_getD, List.getElem?_replicate]
    split <;> rfl
  · rfl
end Lg

/-- A ledger in memory: the nodes' Parents in block B, what one uses in the map r. -/
structure LmAt (w : World) (j B r : Nat) (ns : List Nd) (L : List V3) : Prop where
  box : Row w j #[.slice (some ⟨B, 0, none⟩) ns.length ns.length, .slice none 0 0, .int .i64 0, .int .i64 0, .map (some r)] 64
  rows : Row w B (cellsOf Nd.c ns).toArray 60
  mp : MpAt (fun v : V3 => .agg v.c) w r (Lg.use L)
  len : L.length = ns.length
  few : ns.length ≤ 12

theorem LmAt.under {w w' : World} {j B r : Nat} {ns : List Nd} {L : List V3} (h : LmAt w j B r ns L) (g : Below w.heap.size w w') : LmAt w' j B r ns L :=
  ⟨h.box.under g, h.rows.under g, h.mp.kept (g.block r h.mp.lt), h.len, h.few⟩
theorem LmAt.jr {w : World} {j B r : Nat} {ns : List Nd} {L : List V3} (h : LmAt w j B r ns L) : j ≠ r := h.mp.not_row h.box
theorem LmAt.br {w : World} {j B r : Nat} {ns : List Nd} {L : List V3} (h : LmAt w j B r ns L) : B ≠ r := h.mp.not_row h.rows
theorem LmAt.keep {w w' : World} {j B r : Nat} {ns : List Nd} {L M : List V3} (h : LmAt w j B r ns L) (g : But r w w') (hm : MpAt (fun v : V3 => .agg v.c) w' r (Lg.use M)) (hl : M.length = L.length) : LmAt w' j B r ns M :=
  ⟨h.box.keep g h.jr, h.rows.keep g h.br, hm, hl.trans h.len, h.few⟩
theorem node_sl {w : World} {B : Nat} {l : List Nd} {t : TypeId} (h : Row w B (cellsOf Nd.c l).toArray t) (hs : l.length ≤ 9223372036854775807) (cap : Nat) : Sl Nd.c 22 11 w (some ⟨B, 0, none⟩) cap B 0 l :=
  ⟨hs, fun _ => h.lt, fun i hi w0 => node_index B l.length cap i hi w0, fun i x hx j v hv => by
    rw [h.at_, Nat.zero_add]
    have := cellsOf_at Nd.c 11 (fun _ => rfl) l i x j v hx hv
    simpa using this⟩
theorem LmAt.sl {w : World} {j B r : Nat} {ns : List Nd} {L : List V3} (h : LmAt w j B r ns L) : Sl Nd.c 22 11 w (some ⟨B, 0, none⟩) ns.length B 0 ns := node_sl h.rows (by have := h.few; omega) _
/-- The tree that a ledger keeps, as a configuration. -/
def Lg.tree (ns : List Nd) : Cmd := ⟨0, ns, [], 0, 0, Cm.zG, 0⟩
theorem LmAt.cm {w : World} {j B r : Nat} {ns : List Nd} {L : List V3} (h : LmAt w j B r ns L) : CmAt (Lg.tree ns) (.slice (some ⟨B, 0, none⟩) ns.length ns.length) (.slice none 0 0) w :=
  ⟨some ⟨B, 0, none⟩, ns.length, B, 0, none, 0, 0, 0, rfl, rfl, h.sl, Sl.nil _ _ _ _⟩

theorem map_zero (w : World) : (zeroValue 35).run Try.prog w = .ok (.agg Qt.z3.c) w := by
  simp [zeroValue]
  rfl
theorem lm_look {w : World} {r : Nat} {L : List V3} (h : MpAt (fun v : V3 => .agg v.c) w r (Lg.use L)) (n : Int) :
    (Instr.lookup 62 (.map (some r)) (.int .i64 n) false).run Try.prog w = .ok (.agg #[.int .i64 (Qt.ath L n).x, .int .i64 (Qt.ath L n).y, .int .i64 (Qt.ath L n).z]) w := by
  have := (Mp.look h Try.underlying62 Try.underlying3 (map_zero w) n).1
  rw [Lg.use_get] at this
  exact this

set_option maxHeartbeats 400000 in
theorem kIsTenant {w : World} {j B r : Nat} {ns : List Nd} {L : List V3} (t : Int) (hA : LmAt w j B r ns L) (ht : In64 t) :
    Calls Try.prog 30 #[.pointer (some ⟨j, 0, none⟩), .int .i64 t] w (RetBelow (.bool (Cf.leaf ns t)) w) := by
  have hlf := kLeaf (Lg.tree ns) _ _ t w ht (Nat.le_trans hA.few (by decide)) hA.cm
  simp only [Cmd.f, Lg.tree] at hlf
  have p0 := hA.box.at_ 0
  have p1 := hA.box.at_ 1
  have p2 := hA.box.at_ 2
  have p3 := hA.box.at_ 3
  simp only [List.getElem?_toArray, List.getElem?_cons_zero, List.getElem?_cons_succ] at p0 p1 p2 p3
  have HLF := Lib.hid hlf
  clear hlf hA
  go_enter Try.func30, Try.ntmps30
  go_wp2_with fail
  refine HLF.out.mono ?_
  rintro er w1 ⟨rfl, b1⟩
  have B1 := Lib.hid b1
  clear b1 p0 p1 p2 p3
  go_wp2_with fail
  go_ret
  exact ⟨rfl, B1.out⟩

set_option maxHeartbeats 400000 in
theorem kUsedBy {w : World} {j B r : Nat} {ns : List Nd} {L : List V3} (t : Int) (hA : LmAt w j B r ns L) (ht : In64 t) :
    Calls Try.prog 29 #[.pointer (some ⟨j, 0, none⟩), .int .i64 t] w (RetBelow (.agg (if Cf.leaf ns t = true then Qt.ath L t else Qt.z3).c) w) := by
  have al := (Below.refl w.heap.size w).alloc (Nat.le_refl w.heap.size) (.cells #[.int .i64 0, .int .i64 0, .int .i64 0] 35)
  have r0 := Row.new w #[.int .i64 0, .int .i64 0, .int .i64 0] 35
  have h1 := hA.under al
  have hit := kIsTenant t h1 ht
  have h4 := fun w2 (g : Below (w.alloc (.cells #[.int .i64 0, .int .i64 0, .int .i64 0] 35)).heap.size (w.alloc (.cells #[.int .i64 0, .int .i64 0, .int .i64 0] 35)) w2) => (show w2.cell? ⟨j, 4, none⟩ = some (.map (some r)) from (h1.under g).box.at_ 4)
  have hlk := fun w2 (g : Below (w.alloc (.cells #[.int .i64 0, .int .i64 0, .int .i64 0] 35)).heap.size (w.alloc (.cells #[.int .i64 0, .int .i64 0, .int .i64 0] 35)) w2) => lm_look (h1.under g).mp t
  obtain ⟨u, hu⟩ : ∃ u, Qt.ath L t = u := ⟨_, rfl⟩
  simp only [hu] at hlk ⊢
  obtain ⟨s, hs⟩ : ∃ s, (if Cf.leaf ns t = true then u else Qt.z3) = s := ⟨_, rfl⟩
  rw [hs]
  obtain ⟨W, hW⟩ : ∃ v, w.alloc (.cells #[.int .i64 0, .int .i64 0, .int .i64 0] 35) = v := ⟨_, rfl⟩
  obtain ⟨LF, hLF⟩ : ∃ f, Cf.leaf ns t = f := ⟨_, rfl⟩
  rw [hLF] at hit hs
  rw [hW] at hit h4 hlk al r0
  have HIT := Lib.hid hit; have H4 := Lib.hid h4; have HLK := Lib.hid hlk; have AL := Lib.hid al; have R0 := Lib.hid r0; have HS := Lib.hid hs
  clear hit h4 hlk al r0 h1 hA hu hLF hs
  go_enter Try.func29, Try.ntmps29
  go_upto_region 1 with fail
  clear hW
  go_wp2_with fail
  refine HIT.out.mono ?_
  rintro er w1 ⟨rfl, b1⟩
  have R1 := Lib.hid (R0.out.under b1); have G1 := Lib.hid (below_trans AL.out b1); have X4 := H4.out w1 b1; have XL := Lib.hid (HLK.out w1 b1)
  clear b1 H4 HLK
  cases LF
  · have hs := HS.out
    rw [if_neg (by decide)] at hs
    subst hs
    go_wp2_with (first | (refine wpList_store_row rfl 35 _ _ rfl w.heap.size #[.int .i64 0, .int .i64 0, .int .i64 0] rfl rfl _ _ R1.out vec_len rfl (one_cells 0 0 0) ?_) | fail)
    exact bodyPost_ret (results_cell_row (p := 4) (by kernel_rfl) _ _ w.heap.size _ _ _ _ rfl (R1.out.setRow _) Try.underlying35 rfl vec_len) rfl ⟨rfl, below_setRow3 G1.out (Nat.le_refl _) _⟩
  · have hs := HS.out
    rw [if_pos rfl] at hs
    subst hs
    obtain ⟨u1, u2, u3⟩ := u
    go_wp2_with (first | (at_lookup; refine wpList_lookup_by rfl 62 _ _ _ rfl _ _ _ rfl rfl XL.out ?_) | (refine wpList_store_row rfl 35 _ _ rfl w.heap.size #[.int .i64 u1, .int .i64 u2, .int .i64 u3] rfl rfl _ _ R1.out vec_len rfl (one_cells u1 u2 u3) ?_) | fail)
    exact bodyPost_ret (results_cell_row (p := 4) (by kernel_rfl) _ _ w.heap.size _ _ _ _ rfl (R1.out.setRow _) Try.underlying35 rfl vec_len) rfl ⟨rfl, below_setRow3 G1.out (Nat.le_refl _) _⟩

set_option maxHeartbeats 400000 in
theorem kUsed12 {w : World} {j B r : Nat} {ns : List Nd} {L : List V3} (t : Int) (hA : LmAt w j B r ns L) :
    Calls Try.prog 18 #[.pointer (some ⟨j, 0, none⟩), .int .i64 t] w (RetBelow (.agg (Qt.ath L t).c) w) := by
  have al := (Below.refl w.heap.size w).alloc (Nat.le_refl w.heap.size) (.cells #[.int .i64 0, .int .i64 0, .int .i64 0] 35)
  have r0 := Row.new w #[.int .i64 0, .int .i64 0, .int .i64 0] 35
  have h1 := hA.under al
  have h4 : (w.alloc (.cells #[.int .i64 0, .int .i64 0, .int .i64 0] 35)).cell? ⟨j, 4, none⟩ = some (.map (some r)) := h1.box.at_ 4
  have hlk := lm_look h1.mp t
  obtain ⟨u, hu⟩ : ∃ u, Qt.ath L t = u := ⟨_, rfl⟩
  simp only [hu] at hlk ⊢
  obtain ⟨u1, u2, u3⟩ := u
  obtain ⟨W, hW⟩ : ∃ v, w.alloc (.cells #[.int .i64 0, .int .i64 0, .int .i64 0] 35) = v := ⟨_, rfl⟩
  rw [hW] at h4 hlk al r0
  have HLK := Lib.hid hlk; have AL := Lib.hid al; have R0 := Lib.hid r0
  clear hlk al r0 h1 hA hu
  go_enter Try.func18, Try.ntmps18
  go_upto_region 1 with fail
  clear hW
  go_wp2_with (first | (at_lookup; refine wpList_lookup_by rfl 62 _ _ _ rfl _ _ _ rfl rfl HLK.out ?_) | (refine wpList_store_row rfl 35 _ _ rfl w.heap.size #[.int .i64 u1, .int .i64 u2, .int .i64 u3] rfl rfl _ _ R0.out vec_len rfl (one_cells u1 u2 u3) ?_) | fail)
  exact bodyPost_ret (results_cell_row (p := 4) (by kernel_rfl) _ _ w.heap.size _ _ _ _ rfl (R0.out.setRow _) Try.underlying35 rfl vec_len) rfl ⟨rfl, below_setRow3 AL.out (Nat.le_refl _) _⟩

end Go.Proofs.Ytkaikekibmgmmaa
