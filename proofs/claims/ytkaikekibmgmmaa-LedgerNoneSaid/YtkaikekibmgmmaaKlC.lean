/- The landed ledger: a tree with its Parents alone; a new ledger. -/
import Derived.Test.YtkaikekibmgmmaaKlA
namespace Go.Proofs.Ytkaikekibmgmmaa
open Go.RowKit
set_option linter.unusedVariables false

/-- The first j are a's, the others b. -/
def Lg.fillN {α : Type} (a : Nat → α) (b : α) (n j : Nat) : List α := (List.range n).map fun i => if i < j then a i else b
theorem Lg.fillN_len {α : Type} (a : Nat → α) (b : α) (n j : Nat) : (Lg.fillN a b n j).length = n := by simp [Lg.fillN]
theorem Lg.fillN_zero {α : Type} (a : Nat → α) (b : α) (n : Nat) : Lg.fillN a b n 0 = List.replicate n b := by
  unfold Lg.fillN
  have h : (fun i : Nat => if i < 0 then a i else b) = fun _ => b := by funext i; rw [if_neg (by omega)]
  rw [h, List.map_const', List.length_range]
theorem Lg.fillN_at {α : Type} (a : Nat → α) (b : α) (n j : Nat) (hj : j < n) : (Lg.fillN a b n j)[j]? = some b := by
  rw [Lg.fillN, List.getElem?_map, List.getElem?_range hj, Option.map_some, if_neg (by omega)]
theorem Lg.fillN_succ {α : Type} (a : Nat → α) (b : α) (n j : Nat) (hj : j < n) : (Lg.fillN a b n j).set j (a j) = Lg.fillN a b n (j + 1) := by
  apply List.ext_getElem?
  intro i
  rw [List.getElem?_set, Lg.fillN_len]
  by_cases h : j = i
  · subst h
    rw [if_pos rfl, if_pos hj, Lg.fillN, List.getElem?_map, List.getElem?_range hj, Option.map_some, if_pos (by omega)]
  · rw [if_neg h, Lg.fillN, Lg.fillN, List.getElem?_map, List.getElem?_map]
    cases q : (List.range n)[i]? with
    | none => rfl
    | some k =>
      have hk : k = i := by
        have hi : i < n := by
          rcases Nat.lt_or_ge i n with p | p
          · exact p
          · rw [List.getElem?_eq_none (by simpa using p)] at q; cases q
        rw [List.getElem?_range hi] at q
        simpa using q.symm
      subst hk
      simp only [Option.map_some]
      by_cases p : k < j
      · rw [if_pos p, if_pos (by omega)]
      · rw [if_neg p, if_neg (by omega)]
theorem Lg.fillN_all {α : Type} (l : List α) (b : α) (a : Nat → α) (h : ∀ i x, l[i]? = some x → a i = x) : Lg.fillN a b l.length l.length = l := by
  apply List.ext_getElem?
  intro i
  rw [Lg.fillN, List.getElem?_map]
  rcases Nat.lt_or_ge i l.length with q | q
  · rw [List.getElem?_range q, Option.map_some, if_pos q, h i _ (List.getElem?_eq_getElem q), List.getElem?_eq_getElem q]
  · rw [List.getElem?_eq_none (by simpa using q), List.getElem?_eq_none q]
    rfl

theorem cells11_cons (x : Nd) (l : List Nd) : cellsOf Nd.c (x :: l) = .int .i64 x.par :: .int .i64 x.wt :: .int .i64 x.nom.x :: .int .i64 x.nom.y :: .int .i64 x.nom.z :: .int .i64 x.bor.x :: .int .i64 x.bor.y :: .int .i64 x.bor.z :: .int .i64 x.lend.x :: .int .i64 x.lend.y :: .int .i64 x.lend.z :: cellsOf Nd.c l := by simp [cellsOf, Nd.c]
theorem cells11_par : ∀ (l : List Nd) (i : Nat) (x : Nd) (p : Int), l[i]? = some x → (cellsOf Nd.c l).set (i * 11) (.int .i64 p) = cellsOf Nd.c (l.set i ⟨p, x.wt, x.nom, x.bor, x.lend⟩)
  | [], i, x, p, h => by simp at h
  | y :: l, 0, x, p, h => by
    have e : y = x := by simpa using h
    subst e
    rw [List.set_cons_zero, cells11_cons, cells11_cons, Nat.zero_mul, List.set_cons_zero]
  | y :: l, i + 1, x, p, h => by
    have ih := cells11_par l i x p (by simpa using h)
    rw [List.set_cons_succ, cells11_cons, cells11_cons, ← ih]
    rw [show (i + 1) * 11 = i * 11 + 1 + 1 + 1 + 1 + 1 + 1 + 1 + 1 + 1 + 1 + 1 by omega]
    simp only [List.set_cons_succ]
theorem row_par {w : World} {B : Nat} {l : List Nd} {t : TypeId} (h : Row w B (cellsOf Nd.c l).toArray t) (i : Nat) (x : Nd) (p : Int) (hx : l[i]? = some x) :
    Row (w.setCell ⟨B, 0 + i * 11, none⟩ (.int .i64 p)) B (cellsOf Nd.c (l.set i ⟨p, x.wt, x.nom, x.bor, x.lend⟩)).toArray t := by
  have h3 := h.set (i * 11) (.int .i64 p)
  rw [List.setIfInBounds_toArray, cells11_par l i x p hx] at h3
  rw [Nat.zero_add]
  exact h3
theorem node_info12 : (Try.prog.info? 60).map (fun i => (i.zero, i.size, i.bytes)) = some (some (.agg Qt.nd0.c), 11, 88) := by kernel_rfl
theorem made_nodes (n : Nat) : madeCells (Value.agg Qt.nd0.c).cells (n * 11) = (cellsOf Nd.c (List.replicate n Qt.nd0)).toArray := by
  have hr : cellsOf Nd.c (List.replicate n Qt.nd0) = List.replicate (n * 11) (.int .i64 0) := by
    induction n with
    | zero => rfl
    | succ n ih =>
      rw [List.replicate_succ, cells11_cons, ih, show (n + 1) * 11 = n * 11 + 1 + 1 + 1 + 1 + 1 + 1 + 1 + 1 + 1 + 1 + 1 by omega]
      simp only [List.replicate_succ]
      rfl
  rw [hr]
  apply Array.toList_inj.1
  apply List.ext_getElem?
  intro j
  by_cases h : j < n * 11
  · have : j % 11 = 0 ∨ j % 11 = 1 ∨ j % 11 = 2 ∨ j % 11 = 3 ∨ j % 11 = 4 ∨ j % 11 = 5 ∨ j % 11 = 6 ∨ j % 11 = 7 ∨ j % 11 = 8 ∨ j % 11 = 9 ∨ j % 11 = 10 := by omega
    rcases this with e | e | e | e | e | e | e | e | e | e | e <;> simp [madeCells, Value.cells, Nd.c, Qt.nd0, Qt.z3, h, e]
  · simp [madeCells, h]
theorem make_nodes (w : World) (n : Nat) (hn : n ≤ 12) : (Instr.makeSlice 22 (.int .i64 (n : Int)) (.int .i64 (n : Int))).run Try.prog w = .ok (.slice (some ⟨w.heap.size, 0, none⟩) n n) (w.alloc (.cells (cellsOf Nd.c (List.replicate n Qt.nd0)).toArray 60)) := by
  obtain ⟨i, hi, hz, hs, hb⟩ := info_parts node_info12
  have h := run_make (P := Try.prog) w 22 60 i _ Try.underlying22 hi hz .i64 .i64 n n (by omega) (by omega) (by rw [hb]; omega) (by omega)
  rw [hs, Int.toNat_natCast, made_nodes n] at h
  exact h
theorem conf_len12 : (Try.prog.info? 25).map (·.size) = some 4 := by kernel_rfl

structure TrSo (w : World) (C4 : Array Value) (U : List Nd) (wr : World) : Prop where
  box : Row wr w.heap.size C4 25
  res : Row wr (w.heap.size + 1) #[.slice none 0 0, .slice none 0 0, .int .i64 0, .int .i64 0] 25
  rows : Row wr (w.heap.size + 1 + 1) (cellsOf Nd.c U).toArray 60
  low : Below w.heap.size w wr

set_option maxHeartbeats 1000000 in
set_option maxRecDepth 8000 in
theorem kTreeOf {c : Cmd} {vn vh : Value} {w : World} (hC : CmAt c vn vh w) (h12 : c.nodes.length ≤ 12) :
    Calls Try.prog 26 #[.agg (c.f vn vh)] w fun e w' => ∃ B, e = .returned (.agg #[.slice (some ⟨B, 0, none⟩) c.nodes.length c.nodes.length, .slice none 0 0, .int .i64 0, .int .i64 0]) ∧ Row w' B (cellsOf Nd.c (c.nodes.map Lg.bare)).toArray 60 ∧ w.heap.size ≤ B ∧ Below w.heap.size w w' := by
  obtain ⟨an, cn, nb, no, ah, ch, hb, ho, rfl, rfl, s1, s2⟩ := hC
  obtain ⟨kind, ns, hosts, half, age, g, n0⟩ := c
  simp only [Cmd.f] at *
  have hus := fun (k : Nat) (x : Nd) (hx : ns[k]? = some x) (hk : k < ns.length) => (show (Lg.fillN (fun i => Lg.bare (Qt.nd ns (i : Int))) Qt.nd0 ns.length k).set k ⟨x.par, Qt.nd0.wt, Qt.nd0.nom, Qt.nd0.bor, Qt.nd0.lend⟩ = Lg.fillN (fun i => Lg.bare (Qt.nd ns (i : Int))) Qt.nd0 ns.length (k + 1) from by
    rw [← Lg.fillN_succ _ _ _ _ hk]
    have e : Qt.nd ns (k : Int) = x := by rw [Qt.nd, Int.toNat_natCast, List.getD_eq_getElem?_getD, hx]; rfl
    simp only [e]
    rfl)
  have hug := fun (k : Nat) (hk : k < ns.length) => Lg.fillN_at (fun i => Lg.bare (Qt.nd ns (i : Int))) Qt.nd0 ns.length k hk
  have hul := fun k => Lg.fillN_len (fun i => Lg.bare (Qt.nd ns (i : Int))) Qt.nd0 ns.length k
  have hu0 := Lg.fillN_zero (fun i => Lg.bare (Qt.nd ns (i : Int))) Qt.nd0 ns.length
  have hue : Lg.fillN (fun i => Lg.bare (Qt.nd ns (i : Int))) Qt.nd0 ns.length ns.length = ns.map Lg.bare := by
    have := Lg.fillN_all (ns.map Lg.bare) Qt.nd0 (fun i => Lg.bare (Qt.nd ns (i : Int))) (fun i x hx => by
      rw [List.getElem?_map] at hx
      rw [Qt.nd, Int.toNat_natCast, List.getD_eq_getElem?_getD]
      cases q : ns[i]? with
      | none => rw [q] at hx; cases hx
      | some y => rw [q] at hx; cases hx; rfl)
    rw [List.length_map] at this
    exact this
  obtain ⟨U, hU⟩ : ∃ f, Lg.fillN (fun i => Lg.bare (Qt.nd ns (i : Int))) Qt.nd0 ns.length = f := ⟨_, rfl⟩
  simp only [hU] at hus hug hu0 hue hul
  have hNi := s1.idx
  have hx := fun (k : Nat) (hk : k < ns.length) => (show ∃ x, ns[k]? = some x from ⟨_, List.getElem?_eq_getElem hk⟩)
  have rA := (Row.new w #[.slice an ns.length cn, .slice ah hosts.length ch, .int .i64 half, .int .i64 age] 25).under ((Below.refl _ _).alloc (Nat.le_refl _) (.cells #[.slice none 0 0, .slice none 0 0, .int .i64 0, .int .i64 0] 25))
  have rB := Row.new (w.alloc (.cells #[.slice an ns.length cn, .slice ah hosts.length ch, .int .i64 half, .int .i64 age] 25)) #[.slice none 0 0, .slice none 0 0, .int .i64 0, .int .i64 0] 25
  have g0 := two_below w (.cells #[.slice an ns.length cn, .slice ah hosts.length ch, .int .i64 half, .int .i64 age] 25) (.cells #[.slice none 0 0, .slice none 0 0, .int .i64 0, .int .i64 0] 25)
  rw [World.size_alloc] at rB
  obtain ⟨nl, hnl⟩ : ∃ n, ns.length = n := ⟨_, rfl⟩
  obtain ⟨hl, hhl⟩ : ∃ n, hosts.length = n := ⟨_, rfl⟩
  simp only [hnl, hhl] at *
  have s0 : ((w.alloc (.cells #[.slice an nl cn, .slice ah hl ch, .int .i64 half, .int .i64 age] 25)).alloc (.cells #[.slice none 0 0, .slice none 0 0, .int .i64 0, .int .i64 0] 25)).heap.size = w.heap.size + 1 + 1 := by rw [World.size_alloc, World.size_alloc]
  obtain ⟨W, hW⟩ : ∃ V, (w.alloc (.cells #[.slice an nl cn, .slice ah hl ch, .int .i64 half, .int .i64 age] 25)).alloc (.cells #[.slice none 0 0, .slice none 0 0, .int .i64 0, .int .i64 0] 25) = V := ⟨_, rfl⟩
  rw [hW] at rA rB g0 s0
  have hmk := make_nodes W nl h12
  have al := (Below.refl W.heap.size W).alloc (Nat.le_refl _) (.cells (cellsOf Nd.c (List.replicate nl Qt.nd0)).toArray 60)
  have rr := Row.new W (cellsOf Nd.c (List.replicate nl Qt.nd0)).toArray 60
  rw [s0] at hmk rr
  have t0 : TrSo w #[.slice an nl cn, .slice ah hl ch, .int .i64 half, .int .i64 age] (U 0) (W.alloc (.cells (cellsOf Nd.c (List.replicate nl Qt.nd0)).toArray 60)) := ⟨rA.under al, rB.under al, by rw [hu0]; exact rr, below_trans g0 al⟩
  have q0 : W.cell? ⟨w.heap.size, 0, none⟩ = some (.slice an nl cn) := rA.at_ 0
  obtain ⟨zn, hzn⟩ : ∃ z : Int, (nl : Int) = z := ⟨_, rfl⟩
  have HUS := Lib.hid hus; have HUG := Lib.hid hug; have HUE := Lib.hid hue; have HUL := Lib.hid hul; have HN := Lib.hid s1; have HNI := Lib.hid hNi; have HX := Lib.hid hx; have T0 := Lib.hid t0; have HNL := Lib.hid hnl
  clear hus hug hue hul hu0 s1 s2 hNi hx t0 al rr rA rB g0 s0 hnl hhl hU
  go_enter Try.func26, Try.ntmps26
  go_upto_region 1 with fail
  clear hW
  rw [hzn] at hmk
  go_wp2_with fail
  clear hmk q0
  go_loopw [11] (fun i wr => ∃ (k : Int), i = .int .i64 k ∧ 0 ≤ k ∧ k ≤ zn ∧ Hid (TrSo w #[.slice an nl cn, .slice ah hl ch, .int .i64 half, .int .i64 age] (U k.toNat) wr)) (fun i _ => (zn - intOf i).toNat)
  case atStart => exact ⟨0, rfl, by omega, by omega, T0.out⟩
  case round =>
    obtain ⟨k, rfl, hk0, hkz, hd⟩ := hrel
    by_cases hlt : k < zn
    · obtain ⟨x, hx⟩ := HX.out k.toNat (by omega)
      have hi := HNI.out k.toNat (by omega)
      rw [show ((k.toNat : Nat) : Int) = k by omega] at hi
      have hr := (HN.out.kept hd.out.low).at_ k.toNat x hx
      have hbi := node_index (w.heap.size + 1 + 1) nl nl k.toNat (by omega)
      rw [show ((k.toNat : Nat) : Int) = k by omega] at hbi
      have hus := HUS.out k.toNat x hx (by omega)
      have fin := row_par hd.out.rows k.toNat _ x.par (HUG.out k.toNat (by omega))
      rw [hus] at fin
      have hsf := hd.out.rows.soft (0 + k.toNat * 11)
      have hth : wr.cell? ⟨w.heap.size + 1 + 1, 0 + k.toNat * 11, none⟩ = some (.int .i64 0) := (node_sl hd.out.rows (by rw [HUL.out]; omega) nl).at_ k.toNat _ (HUG.out k.toNat (by omega)) 0 _ rfl
      obtain ⟨p, t, ⟨a0, a1, a2⟩, ⟨b0, b1, b2⟩, ⟨c0, c1, c2⟩⟩ := x
      have f0 : wr.cell? ⟨nb, no + k.toNat * 11, none⟩ = some (.int .i64 p) := hr 0 _ rfl
      have q0 : wr.cell? ⟨w.heap.size, 0, none⟩ = some (.slice an nl cn) := hd.out.box.at_ 0
      obtain ⟨oi, hoi⟩ : ∃ n, no + k.toNat * 11 = n := ⟨_, rfl⟩
      obtain ⟨oj, hoj⟩ : ∃ n, 0 + k.toNat * 11 = n := ⟨_, rfl⟩
      rw [hoi] at f0
      simp only [hoi] at hi
      rw [hoj] at fin hsf hth
      simp only [hoj] at hbi
      have kb := (But.refl (w.heap.size + 1 + 1) wr).setCell (p := ⟨w.heap.size + 1 + 1, oj, none⟩) (.inr rfl) (.int .i64 p)
      have S1 := Lib.hid (show TrSo w #[.slice an nl cn, .slice ah hl ch, .int .i64 half, .int .i64 age] (U (k.toNat + 1)) (wr.setCell ⟨w.heap.size + 1 + 1, oj, none⟩ (.int .i64 p)) from ⟨hd.out.box.keep kb (by omega), hd.out.res.keep kb (by omega), fin, hd.out.low.trans (kb.below (by omega) hd.out.low.size)⟩)
      clear hus fin hr kb hd hx hoi hoj
      go_wp2_with fail
      go_roundw
      case rel => exact ⟨k + 1, rfl, by omega, by omega, by rw [show (k + 1).toNat = k.toNat + 1 by omega]; exact S1.out⟩
      case measure => simp [intOf]; omega
    · have so := hd.out
      rw [show k.toNat = nl by omega, HUE.out] at so
      have FIN := Lib.hid so
      clear so hd
      go_wp2_with (first | (refine wpList_store_row rfl 25 _ _ rfl (w.heap.size + 1) #[.slice (some ⟨w.heap.size + 1 + 1, 0, none⟩) nl nl, .slice none 0 0, .int .i64 0, .int .i64 0] rfl rfl _ _ FIN.out.res conf_len12 rfl (by simp [Value.oneCell']) ?_) | fail)
      have kb := (But.refl (w.heap.size + 1) wr).setRow (g := w.heap.size + 1) (.inr rfl) #[.slice (some ⟨w.heap.size + 1 + 1, 0, none⟩) nl nl, .slice none 0 0, .int .i64 0, .int .i64 0]
      refine bodyPost_ret (results_cell_row (p := 2) (by kernel_rfl) _ _ (w.heap.size + 1) _ _ _ _ rfl (FIN.out.res.setRow #[.slice (some ⟨w.heap.size + 1 + 1, 0, none⟩) nl nl, .slice none 0 0, .int .i64 0, .int .i64 0]) Try.underlying25 rfl conf_len12) rfl ?_
      exact ⟨_, rfl, FIN.out.rows.keep kb (by omega), by omega, FIN.out.low.trans (kb.below (by omega) FIN.out.low.size)⟩

set_option maxHeartbeats 1000000 in
set_option maxRecDepth 8000 in
theorem kNew12 {c : Cmd} {vn vh : Value} {w : World} (hC : CmAt c vn vh w) (h12 : c.nodes.length ≤ 12) :
    Calls Try.prog 10 #[.agg (c.f vn vh)] w fun e w' => ∃ j B r, e = .returned (.pointer (some ⟨j, 0, none⟩)) ∧ LmAt w' j B r (c.nodes.map Lg.bare) (List.replicate c.nodes.length Qt.z3) ∧ Below w.heap.size w w' ∧ w.heap.size ≤ j ∧ w.heap.size ≤ B ∧ w.heap.size ≤ r := by
  have htr := fun w2 (g : Below w.heap.size w w2) => kTreeOf (hC.kept g) h12
  obtain ⟨an, ln, cn, ah, lh, ch, rfl, rfl⟩ := hC.slices
  obtain ⟨kind, ns, hosts, half, age, g, n0⟩ := c
  simp only [Cmd.f] at *
  have al := (Below.refl w.heap.size w).alloc (Nat.le_refl _) (.cells #[.slice an ln cn, .slice ah lh ch, .int .i64 half, .int .i64 age] 25)
  have ra := Row.new w #[.slice an ln cn, .slice ah lh ch, .int .i64 half, .int .i64 age] 25
  obtain ⟨W, hW⟩ : ∃ V, w.alloc (.cells #[.slice an ln cn, .slice ah lh ch, .int .i64 half, .int .i64 age] 25) = V := ⟨_, rfl⟩
  rw [hW] at al ra
  have p0 := ra.at_ 0
  have p1 := ra.at_ 1
  have p2 := ra.at_ 2
  have p3 := ra.at_ 3
  simp only [List.getElem?_toArray, List.getElem?_cons_zero, List.getElem?_cons_succ] at p0 p1 p2 p3
  have HTR := Lib.hid (htr W al); have AL := Lib.hid al; have HL := Lib.hid h12
  obtain ⟨m, hm⟩ : ∃ m, ns.map Lg.bare = m := ⟨_, rfl⟩
  have hml : m.length = ns.length := by rw [← hm, List.length_map]
  simp only [hm] at HTR ⊢
  obtain ⟨nl, hnl⟩ : ∃ n, ns.length = n := ⟨_, rfl⟩
  rw [hnl] at HTR HL hml ⊢
  clear htr al ra hC hnl hm h12
  have HML := Lib.hid hml
  clear hml
  have hmm : ∀ w, (Instr.makeMap 62 none).run Try.prog w = .ok (.map (some w.heap.size)) (w.alloc (.map #[] 0)) := fun _ => rfl
  go_enter Try.func10, Try.ntmps10
  go_upto_region 1 with fail
  clear hW
  go_wp2_with fail
  refine HTR.out.mono ?_
  rintro er w2 ⟨B, rfl, r2, hB, b2⟩
  have R2 := Lib.hid r2; have B2 := Lib.hid (below_trans AL.out b2); have HB := Lib.hid hB
  clear r2 b2 hB p0 p1 p2 p3 HTR
  go_wp2_with fail
  go_ret
  have a1 := (Below.refl w2.heap.size w2).alloc (Nat.le_refl _) (.map #[] 0)
  have a2 := (Below.refl (w2.alloc (.map #[] 0)).heap.size (w2.alloc (.map #[] 0))).alloc (Nat.le_refl _) (.cells #[.slice (some ⟨B, 0, none⟩) nl nl, .slice none 0 0, .int .i64 0, .int .i64 0, .map (some w2.heap.size)] 64)
  have rb := Row.new (w2.alloc (.map #[] 0)) #[.slice (some ⟨B, 0, none⟩) nl nl, .slice none 0 0, .int .i64 0, .int .i64 0, .map (some w2.heap.size)] 64
  have hs := B2.out.size
  rw [World.size_alloc] at rb
  refine ⟨_, B, w2.heap.size, rfl, ⟨by rw [HML.out]; exact rb, (R2.out.under a1).under a2, ?_, by simp [HML.out], by rw [HML.out]; exact HL.out⟩, below_trans B2.out (below_trans a1 a2), by omega, Nat.le_trans AL.out.size HB.out, hs⟩
  rw [Lg.use_zero]
  exact (Mp.made w2).kept (a2.block w2.heap.size (by rw [World.size_alloc]; omega))

end Go.Proofs.Ytkaikekibmgmmaa
