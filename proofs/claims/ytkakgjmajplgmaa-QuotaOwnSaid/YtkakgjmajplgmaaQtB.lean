/- The plain answer's Path, On. -/
import Derived.Test.YtkakgjmajplgmaaQtA
import Derived.Test.YtkakgjmajplgmaaIntA
import Derived.Test.YtkakgjmajplgmaaCfgA
import Derived.Test.YtkakgjmajplgmaaCmdF
namespace Go.Proofs.Ytkakgjmajplgmaa
open Go.RowKit
set_option linter.unusedVariables false

/-- A path, so far. -/
structure PaSo (ns : List Nd) (w : World) (C4 : Array Value) (P : List Int) (m : Int) (l : List Int) (v : Value) (f : Nat) (wr : World) : Prop where
  rest : Qt.pathTo ns f m l = P
  fuel : (m + 1).toNat ≤ f
  few : l = [] ∨ l.length + (m + 1).toNat ≤ 12
  row : wr.ownsRow (w.heap.size + 1) 3 1 v l.length (cellsOf iC l)
  box : Row wr w.heap.size C4 25
  low : Below w.heap.size w wr
theorem path_out {ns : List Nd} {m : Int} {l : List Int} {f : Nat} (h : ¬ (0 ≤ m ∧ m < ns.length)) : Qt.pathTo ns f m l = l := by
  cases f with
  | zero => rfl
  | succ f => rw [Qt.pathTo, if_neg h]

set_option maxHeartbeats 1000000 in
set_option maxRecDepth 4000 in
theorem rPath_any (ns : List Nd) (an ah : Option Addr) (cn nb no hl ch : Nat) (ha ag n : Int) (w : World) (hN : Sl Nd.c 22 11 w an cn nb no ns) (h12 : ns.length ≤ 12) :
    Calls Try.prog 12 #[.agg #[.slice an ns.length cn, .slice ah hl ch, .int .i64 ha, .int .i64 ag], .int .i64 n] w fun e w' => ∃ v, e = .returned v ∧ w'.ownsRow (w.heap.size + 1) 3 1 v (Qt.path ns n).length (cellsOf iC (Qt.path ns n)) ∧ Below w.heap.size w w' := by
  obtain ⟨P, hP⟩ : ∃ p, Qt.path ns n = p := ⟨_, rfl⟩
  rw [hP]
  have hNi := hN.idx
  have hout := fun m l f h => @path_out ns m l f h
  have hin : ∀ (m : Int) (l : List Int) (f : Nat) x, ns[m.toNat]? = some x → 0 ≤ m → m < ns.length → Qt.pathTo ns (f + 1) m l = if m ≤ x.par then m :: l else Qt.pathTo ns f x.par (m :: l) := fun m l f x hx h0 h1 => by
    have e : Qt.nd ns m = x := by
      have := Qt.node_in (ns := ns) ⟨h0, h1⟩
      rw [this] at hx
      injection hx
    rw [Qt.pathTo, if_pos ⟨h0, h1⟩, e]
  have so0 : PaSo ns w #[.slice an ns.length cn, .slice ah hl ch, .int .i64 ha, .int .i64 ag] P n [] (.slice none 0 0) (n + 1).toNat (w.alloc (.cells #[.slice an ns.length cn, .slice ah hl ch, .int .i64 ha, .int .i64 ag] 25)) :=
    ⟨hP, Nat.le_refl _, .inl rfl, World.ownsRow_nil _ _ _ _, Row.new _ _ _, (Below.refl _ _).alloc (Nat.le_refl _) _⟩
  obtain ⟨nl, hnl⟩ : ∃ n, ns.length = n := ⟨_, rfl⟩
  rw [hnl] at hNi hout hin so0 h12 ⊢
  obtain ⟨zn, hzn⟩ : ∃ z : Int, (nl : Int) = z := ⟨_, rfl⟩
  rw [hzn] at hout hin
  have z12 : zn ≤ 12 := by omega
  have HNI := Lib.hid hNi; have HN := Lib.hid hN; have HL := Lib.hid hnl; have HO := Lib.hid hout; have HI := Lib.hid hin; have S0 := Lib.hid so0; have HZ := Lib.hid hzn
  clear hNi hN hnl hout hin so0 hP h12
  go_enter Try.func12, Try.ntmps12
  go_wp2_with fail
  go_loopw [1, 5] (fun i vv wr => ∃ (m : Int) (l : List Int) (f : Nat), i = .int .i64 m ∧ Hid (PaSo ns w #[.slice an nl cn, .slice ah hl ch, .int .i64 ha, .int .i64 ag] P m l vv f wr)) (fun i _ _ => (intOf i + 1).toNat)
  case atStart => exact ⟨n, [], _, rfl, S0.out⟩
  case round =>
    obtain ⟨m, l, f, rfl, hd⟩ := hrel
    obtain ⟨ao, ln, cp, rfl⟩ := own_form hd.out.row
    have k0 : wr.cell? ⟨w.heap.size, 0, none⟩ = some (.slice an nl cn) := hd.out.box.at_ 0
    by_cases m0 : 0 ≤ m
    · by_cases m1 : m < zn
      · obtain ⟨x, hx⟩ : ∃ x, ns[m.toNat]? = some x := ⟨_, List.getElem?_eq_getElem (by have := HL.out; have := HZ.out; omega)⟩
        have hi := HNI.out m.toNat (by have := HZ.out; omega)
        rw [show ((m.toNat : Nat) : Int) = m by omega] at hi
        have hf := hd.out.fuel
        obtain ⟨f', rfl⟩ : ∃ f', f = f' + 1 := ⟨f - 1, by omega⟩
        have hst := HI.out m l f' x hx m0 m1
        rw [hd.out.rest] at hst
        have hlen : l.length ≤ 12 := by
          rcases hd.out.few with h | h
          · rw [h]; simp
          · omega
        -- the number ahead of the row
        have b1 : w.heap.size + 1 ≤ wr.heap.size := by have := hd.out.box.lt; omega
        obtain ⟨v', w3, hrun, own3, gr3⟩ := int_prepend (wr.alloc (.cells #[.int .i64 m] 3)) (w.heap.size + 1) (.slice ao ln cp) l m (by omega) wr.heap.size b1 (World.ownsRow.alloc hd.out.row _) (Row.new wr _ _) (by rw [World.size_alloc]; omega)
        obtain ⟨ao', ln', cp', rfl⟩ := own_form own3
        have box3 := Row.grown ((hd.out.box).under ((Below.refl _ _).alloc (Nat.le_refl wr.heap.size) (.cells #[.int .i64 m] 3))) gr3 (by simp; omega)
        have low3 : Below w.heap.size w w3 := Below.grown (hd.out.low.alloc hd.out.low.size _) gr3 (by rw [World.size_alloc]; omega) (fun k hk => by simp at hk; omega)
        have k3 : w3.cell? ⟨w.heap.size, 0, none⟩ = some (.slice an nl cn) := box3.at_ 0
        have hr : w3.cell? ⟨nb, no + m.toNat * 11, none⟩ = some (.int .i64 x.par) := (HN.out.from (Nat.le_refl _) low3).at_ m.toNat x hx 0 _ rfl
        obtain ⟨oi, hoi⟩ : ∃ n, no + m.toNat * 11 = n := ⟨_, rfl⟩
        rw [hoi] at hi hr
        obtain ⟨p, hp⟩ : ∃ p, x.par = p := ⟨_, rfl⟩
        rw [hp] at hr hst
        have HST := Lib.hid hst; have HRUN := Lib.hid hrun; have OWN3 := Lib.hid own3; have BOX3 := Lib.hid box3; have LOW3 := Lib.hid low3; have HLEN := Lib.hid hlen; have FEW := Lib.hid hd.out.few
        clear hst hrun own3 gr3 box3 low3 hx hoi hp hlen hd b1
        by_cases hpm : m ≤ p
        · have he := HST.out
          rw [if_pos hpm] at he
          have HE := Lib.hid he
          clear he HST
          go_wp2_with (first | (at_builtin; refine wpList_append_by rfl _ _ _ _ rfl _ _ _ _ rfl rfl HRUN.out ?_) | fail)
          go_ret
          exact ⟨_, rfl, by rw [HE.out]; exact OWN3.out, LOW3.out⟩
        · have he := HST.out
          rw [if_neg hpm] at he
          have HE := Lib.hid he
          clear he HST
          go_wp2_with (first | (at_builtin; refine wpList_append_by rfl _ _ _ _ rfl _ _ _ _ rfl rfl HRUN.out ?_) | fail)
          go_roundw
          case rel =>
            exact ⟨p, m :: l, f', rfl, HE.out.symm, by omega, .inr (by
              rw [List.length_cons]
              rcases FEW.out with h | h
              · rw [h]; simp only [List.length_nil]; omega
              · omega), OWN3.out, BOX3.out, LOW3.out⟩
          case measure => simp [intOf]; omega
      · have he := HO.out m l f (by omega)
        rw [hd.out.rest] at he
        have HE := Lib.hid he; have OWN3 := Lib.hid hd.out.row; have LOW3 := Lib.hid hd.out.low
        clear hd he
        go_wp2_with fail
        go_ret
        exact ⟨_, rfl, by rw [HE.out]; exact OWN3.out, LOW3.out⟩
    · have he := HO.out m l f (by omega)
      rw [hd.out.rest] at he
      have HE := Lib.hid he; have OWN3 := Lib.hid hd.out.row; have LOW3 := Lib.hid hd.out.low
      clear hd he
      go_wp2_with fail
      go_ret
      exact ⟨_, rfl, by rw [HE.out]; exact OWN3.out, LOW3.out⟩

end Go.Proofs.Ytkakgjmajplgmaa
