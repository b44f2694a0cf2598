/- The reference's ledger: none used; two lists of amounts compared. -/
import Derived.Test.YtkaikekibmgmmaaLgA
import Derived.Test.YtkaikekibmgmmaaGb
namespace Go.Proofs.Ytkaikekibmgmmaa
open Go.RowKit
set_option linter.unusedVariables false

set_option maxHeartbeats 1000000 in
set_option maxRecDepth 8000 in
theorem rNew12 {c : Cmd} {vn vh : Value} {w : World} (hC : CmAt c vn vh w) (h12 : c.nodes.length ≤ 12) :
    Calls Try.prog 11 #[.agg (c.f vn vh)] w fun e w' => ∃ j B, e = .returned (.pointer (some ⟨j, 0, none⟩)) ∧ LedAt w' j B c vn vh (List.replicate c.nodes.length Qt.z3) ∧ Below w.heap.size w w' ∧ w.heap.size ≤ j ∧ w.heap.size ≤ B := by
  obtain ⟨an, cn, nb, no, ah, ch, hb, ho, rfl, rfl, s1, s2⟩ := hC
  obtain ⟨kind, nodes, hosts, half, age, g, n⟩ := c
  simp only [Cmd.f] at *
  obtain ⟨nl, hnl⟩ : ∃ n, nodes.length = n := ⟨_, rfl⟩
  obtain ⟨hl, hhl⟩ : ∃ n, hosts.length = n := ⟨_, rfl⟩
  rw [hnl] at h12 ⊢
  rw [hhl]
  obtain ⟨zn, hzn⟩ : ∃ z : Int, (nl : Int) = z := ⟨_, rfl⟩
  have hmk := fun w => make_now w nl h12
  simp only [hzn] at hmk
  have HNL := Lib.hid hnl
  clear s1 s2 hhl hnl
  have q0 : (w.alloc (.cells #[.slice an nl cn, .slice ah hl ch, .int .i64 half, .int .i64 age] 25)).cell? ⟨w.heap.size, 0, none⟩ = some (.slice an nl cn) := (Row.new w _ _).at_ 0
  have q1 : (w.alloc (.cells #[.slice an nl cn, .slice ah hl ch, .int .i64 half, .int .i64 age] 25)).cell? ⟨w.heap.size, 1, none⟩ = some (.slice ah hl ch) := (Row.new w _ _).at_ 1
  have q2 : (w.alloc (.cells #[.slice an nl cn, .slice ah hl ch, .int .i64 half, .int .i64 age] 25)).cell? ⟨w.heap.size, 2, none⟩ = some (.int .i64 half) := (Row.new w _ _).at_ 2
  have q3 : (w.alloc (.cells #[.slice an nl cn, .slice ah hl ch, .int .i64 half, .int .i64 age] 25)).cell? ⟨w.heap.size, 3, none⟩ = some (.int .i64 age) := (Row.new w _ _).at_ 3
  go_enter Try.func11, Try.ntmps11
  go_wp2_with fail
  obtain ⟨W, hW⟩ : ∃ v, w.alloc (.cells #[.slice an nl cn, .slice ah hl ch, .int .i64 half, .int .i64 age] 25) = v := ⟨_, rfl⟩
  rw [hW] at q0 q1 q2 q3 ⊢
  go_region_held3 (fun w' => w'.cell? ⟨w.heap.size, 0, none⟩ = some (.slice an nl cn) ∧ w'.cell? ⟨w.heap.size, 1, none⟩ = some (.slice ah hl ch) ∧ w'.cell? ⟨w.heap.size, 2, none⟩ = some (.int .i64 half) ∧ w'.cell? ⟨w.heap.size, 3, none⟩ = some (.int .i64 age)) (first | assumption | exact ⟨q0, q1, q2, q3⟩ | go_keep) (fail)
  have zW : W.heap.size = w.heap.size + 1 := by rw [← hW, World.size_alloc]
  have gW : Below w.heap.size w W := by rw [← hW]; exact (Below.refl _ _).alloc (Nat.le_refl _) _
  have hrow := (Row.new W (cellsOf V3.c (List.replicate nl Qt.z3)).toArray 35).under ((Below.refl _ _).alloc (Nat.le_refl _) (.cells #[.slice an nl cn, .slice ah hl ch, .int .i64 half, .int .i64 age, .slice (some ⟨W.heap.size, 0, none⟩) nl nl] 44))
  have hbox := Row.new (W.alloc (.cells (cellsOf V3.c (List.replicate nl Qt.z3)).toArray 35)) #[.slice an nl cn, .slice ah hl ch, .int .i64 half, .int .i64 age, .slice (some ⟨W.heap.size, 0, none⟩) nl nl] 44
  rw [World.size_alloc] at hbox
  have hlow := below_drewN (below_trans gW (two_below W (.cells (cellsOf V3.c (List.replicate nl Qt.z3)).toArray 35) (.cells #[.slice an nl cn, .slice ah hl ch, .int .i64 half, .int .i64 age, .slice (some ⟨W.heap.size, 0, none⟩) nl nl] 44))) 1
  have FIN := Lib.hid (And.intro hrow (And.intro hbox hlow))
  clear hrow hbox hlow gW q0 q1 q2 q3 hmk
  go_wp2_with fail
  go_ret
  refine ⟨W.heap.size + 1, W.heap.size, rfl, ⟨?_, FIN.out.1, by omega, ?_⟩, FIN.out.2.2, by omega, by omega⟩
  · rw [HNL.out]; exact FIN.out.2.1
  · rw [List.length_replicate, HNL.out]

theorem vec_neq3 (w : World) (g h : V3) : (binOp .neq 35 (.agg #[.int .i64 g.x, .int .i64 g.y, .int .i64 g.z]) (.agg #[.int .i64 h.x, .int .i64 h.y, .int .i64 h.z])).run Try.prog w = .ok (.bool (!decide (g = h))) w := by
  rw [run_neq_struct, show (10000 : Nat) = 9998 + 1 + 1 from rfl, vec_eqlIn, Result.andThen_ok]
  obtain ⟨a, b, c⟩ := g
  obtain ⟨d, e, f⟩ := h
  have k : (a == d && (b == e && c == f)) = decide ((⟨a, b, c⟩ : V3) = ⟨d, e, f⟩) := by
    rw [Bool.eq_iff_iff]
    simp
  simp only [k]

set_option maxHeartbeats 1000000 in
set_option maxRecDepth 8000 in
theorem rList3 (l m : List V3) {w : World} {ao bo : Option Addr} {cap cap' bb oo bb' oo' : Nat} (hl : Sl V3.c 41 3 w ao cap bb oo l) (hm : Sl V3.c 41 3 w bo cap' bb' oo' m) :
    Calls Try.prog 16 #[.slice ao l.length cap, .slice bo m.length cap'] w (RetBelow (.bool (decide (l = m))) w) := by
  obtain ⟨r, hr⟩ : ∃ r, decide (l = m) = r := ⟨_, rfl⟩
  have hno : l.length ≠ m.length → r = false := fun e => by rw [← hr, decide_eq_false_iff_not]; exact fun h => e (by rw [h])
  have hat : l.length = m.length → ∀ (k : Nat) x y, l[k]? = some x → m[k]? = some y → x ≠ y → r = false := fun _ k x y hx hy e => by
    rw [← hr, decide_eq_false_iff_not]
    intro h
    rw [h, hy] at hx
    exact e (Option.some.inj hx).symm
  have hyes : l.length = m.length → (∀ (k : Nat), k < l.length → l[k]? = m[k]?) → r = true := fun e h => by
    rw [← hr, decide_eq_true_eq]
    apply List.ext_getElem? fun k => ?_
    rcases Nat.lt_or_ge k l.length with q | q
    · exact h k q
    · rw [List.getElem?_eq_none q, List.getElem?_eq_none (by omega)]
  have il := hl.idx
  have im := hm.idx
  have l63 := hl.small
  have m63 := hm.small
  have hel := fun (k : Nat) (e : k < l.length) => (show ∃ x, l[k]? = some x from ⟨_, List.getElem?_eq_getElem e⟩)
  have hem := fun (k : Nat) (e : k < m.length) => (show ∃ x, m[k]? = some x from ⟨_, List.getElem?_eq_getElem e⟩)
  rw [hr]
  obtain ⟨ln, hln⟩ : ∃ n, l.length = n := ⟨_, rfl⟩
  obtain ⟨mn, hmn⟩ : ∃ n, m.length = n := ⟨_, rfl⟩
  rw [hln] at hno hat hyes il l63 hel ⊢
  rw [hmn] at hno hat hyes im m63 hem ⊢
  obtain ⟨zl, hzl⟩ : ∃ z : Int, (ln : Int) = z := ⟨_, rfl⟩
  obtain ⟨zm, hzm⟩ : ∃ z : Int, (mn : Int) = z := ⟨_, rfl⟩
  have HNO := Lib.hid hno; have HAT := Lib.hid hat; have HYES := Lib.hid hyes; have IL := Lib.hid il; have IM := Lib.hid im; have HEL := Lib.hid hel; have HEM := Lib.hid hem; have HL := Lib.hid hl; have HM := Lib.hid hm
  clear hno hat hyes il im hel hem hl hm hr hln hmn
  by_cases hne : zl = zm
  · go_enter Try.func16, Try.ntmps16
    go_wp2_with fail
    go_loopw [5] (fun i wr => ∃ (j : Int), i = .int .i64 j ∧ 0 ≤ j ∧ j ≤ zl ∧ Hid ((∀ k : Nat, k < j.toNat → l[k]? = m[k]?) ∧ Below w.heap.size w wr)) (fun i _ => (zl - intOf i).toNat)
    case atStart => exact ⟨0, rfl, by omega, by omega, fun k hk => by simp at hk, Below.refl _ _⟩
    case round =>
      obtain ⟨j, rfl, hj0, hjz, hd⟩ := hrel
      obtain ⟨hsame, hlow⟩ := hd.out
      by_cases hlt : j < zl
      · obtain ⟨x, hx⟩ := HEL.out j.toNat (by omega)
        obtain ⟨y, hy⟩ := HEM.out j.toNat (by omega)
        have hi := IL.out j.toNat (by omega)
        have hj := IM.out j.toNat (by omega)
        rw [show ((j.toNat : Nat) : Int) = j by omega] at hi hj
        have hrx := fun w9 (g : Below wr.heap.size wr w9) => (HL.out.kept (below_trans hlow g)).at_ j.toNat x hx
        have hry := fun w9 (g : Below wr.heap.size wr w9) => (HM.out.kept (below_trans hlow g)).at_ j.toNat y hy
        obtain ⟨ox, hox⟩ : ∃ n, oo + j.toNat * 3 = n := ⟨_, rfl⟩
        obtain ⟨oy, hoy⟩ : ∃ n, oo' + j.toNat * 3 = n := ⟨_, rfl⟩
        simp only [hox] at hi hrx
        simp only [hoy] at hj hry
        have hne3 := fun w => vec_neq3 w x y
        obtain ⟨f, hf⟩ : ∃ f, decide (x = y) = f := ⟨_, rfl⟩
        simp only [hf] at hne3
        have hfin : f = true → ∀ k : Nat, k < (j + 1).toNat → l[k]? = m[k]? := fun e k hk => by
          rcases Nat.lt_or_ge k j.toNat with q | q
          · exact hsame k q
          · obtain rfl : k = j.toNat := by omega
            rw [hx, hy]
            rw [e, decide_eq_true_eq] at hf
            rw [hf]
        have hbad : f = false → r = false := fun e => HAT.out (by omega) j.toNat x y hx hy (by rw [e, decide_eq_false_iff_not] at hf; exact hf)
        simp only [V3.c] at hrx hry
        have HI := Lib.hid hi; have HJ := Lib.hid hj; have HRX := Lib.hid hrx; have HRY := Lib.hid hry; have HN3 := Lib.hid hne3; have HFIN := Lib.hid hfin; have HBAD := Lib.hid hbad; have HLOW := Lib.hid hlow
        clear hi hj hrx hry hne3 hfin hbad hlow hsame hd hx hy hf hox hoy
        go_wp2_with fail
        refine region_quiet (fun w9 => Below wr.heap.size wr w9) (by kernel_rfl) (by kernel_rfl) (below_drewN (Below.refl _ _) 1) ?_
        repeat (first
          | (go_big_quiet_skip)
          | (with_reducible refine quiet_index 41 _ _ _ _ _ (fun w0 => HI.out w0) rfl rfl rfl ?_ ?_; (focus kernel_rfl); simp only [Act.put, List.setIfInBounds_toArray, List.set_cons_zero, List.set_cons_succ])
          | (with_reducible refine quiet_index 41 _ _ _ _ _ (fun w0 => HJ.out w0) rfl rfl rfl ?_ ?_; (focus kernel_rfl); simp only [Act.put, List.setIfInBounds_toArray, List.set_cons_zero, List.set_cons_succ])
          | (refine quiet_mid bb ox _ 35 _ _ HRX.out rfl rfl ?_ Try.underlying35 rfl ?_ ?_; (focus kernel_rfl); (focus kernel_rfl); simp only [Act.put, List.setIfInBounds_toArray, List.set_cons_zero, List.set_cons_succ])
          | (refine quiet_mid bb' oy _ 35 _ _ HRY.out rfl rfl ?_ Try.underlying35 rfl ?_ ?_; (focus kernel_rfl); (focus kernel_rfl); simp only [Act.put, List.setIfInBounds_toArray, List.set_cons_zero, List.set_cons_succ])
          | (refine quiet_bin .neq 35 _ _ _ _ _ _ rfl rfl rfl HN3.out (fun w => vec_guard w _ _ _ _ _) ?_ ?_; (focus kernel_rfl); simp only [Act.put, List.setIfInBounds_toArray, List.set_cons_zero, List.set_cons_succ])
          | (go_big_quiet_step ((intro g2; (with_reducible rfl)))))
        refine wpQuiet_nil ?_
        intro w9 g9
        have LOW := Lib.hid (below_trans HLOW.out g9)
        clear g9 HI HJ HRX HRY HN3 HLOW
        cases f
        · have hb := HBAD.out rfl
          subst hb
          go_wp2_with fail
          go_ret
          exact ⟨rfl, LOW.out⟩
        · go_wp2_with fail
          go_roundw
          case rel => exact ⟨j + 1, rfl, by omega, by omega, HFIN.out (by trivial), LOW.out⟩
          case measure => simp [intOf]; omega
      · have hy := HYES.out (by omega) (fun k hk => hsame k (by omega))
        subst hy
        have LOW := Lib.hid hlow
        clear hlow hsame hd
        go_wp2_with fail
        go_ret
        exact ⟨rfl, LOW.out⟩
  · have hn := HNO.out (by omega)
    subst hn
    go_enter Try.func16, Try.ntmps16
    go_wp2_with fail
    go_ret
    exact ⟨rfl, Below.refl _ _⟩

end Go.Proofs.Ytkaikekibmgmmaa
