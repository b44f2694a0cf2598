/- The program's journal: Append. -/
import Derived.Test.YtcjpednhefeboaaPjC
namespace Go.Proofs.Ytcjpednhefeboaa
open Go.RowKit
set_option linter.unusedVariables false

/-- Behind one of the journal's methods. -/
def JGives (v : Int) (F : Nat → Prop) (J D : Nat) (d : Dk) (N : Nat) (w : World) (e : Ending) (w' : World) : Prop := e = .returned (.int .i64 v) ∧ Pja w' F J D d N ∧ Keeps F w w'

theorem tooLong_any (s : ByteArray) (w : World) : Calls Try.prog 40 #[.string s] w fun e w' => e = .returned (.bool (decide (16384 < s.size))) ∧ w = w' := by
  obtain ⟨z, hz⟩ : ∃ z : Int, (s.size : Int) = z := ⟨_, rfl⟩
  have e : decide (16384 < s.size) = decide ((16384 : Int) < z) := decide_eq_decide.2 (by omega)
  rw [e]
  go_enter Try.func40, Try.ntmps40
  go_wp2_with fail
  go_ret
  exact ⟨rfl, rfl⟩
theorem tooLong_yes (s : ByteArray) (h : 16384 < s.size) (w : World) : Calls Try.prog 40 #[.string s] w fun e w' => e = .returned (.bool true) ∧ w = w' := by
  have := tooLong_any s w
  rwa [decide_eq_true h] at this
theorem tooLong_no (s : ByteArray) (h : ¬ 16384 < s.size) (w : World) : Calls Try.prog 40 #[.string s] w fun e w' => e = .returned (.bool false) ∧ w = w' := by
  have := tooLong_any s w
  rwa [decide_eq_false h] at this

set_option maxHeartbeats 1000000 in
theorem Append_any {w : World} {F : Nat → Prop} {J D N : Nat} {d : Dk} (h : Pja w F J D d N) (s : ByteArray) (hN : N ≤ 1099511627776) :
    Calls Try.prog 22 #[.pointer (some ⟨J, 0, none⟩), .string s] w (JGives (Jn.app d N s).1 F J D (Jn.app d N s).2.1 (Jn.app d N s).2.2 w) := by
  unfold Jn.app
  by_cases hb : 16384 < s.size
  · rw [if_pos hb]
    have H := Lib.hid h; have TL := Lib.hid (tooLong_yes s hb); clear h hb
    go_enter Try.func22, Try.ntmps22
    go_wp2_with fail
    refine (TL.out _).mono ?_
    rintro e w1 ⟨rfl, rfl⟩
    go_wp2_with fail
    go_ret
    exact ⟨rfl, H.out, Keeps.refl _ _⟩
  rw [if_neg hb]
  have TL := Lib.hid (tooLong_no s hb)
  have hfr : Cr.frm s = Cr.frame s := by unfold Cr.frm; rw [if_pos (by omega)]
  have hc0 := h.c0
  have HB := Lib.hid h.base
  have H := Lib.hid h
  have hF := fun w => Frame_any s w
  rw [hfr] at hF
  have HF := Lib.hid hF
  have hK : ∀ w1, Below w.drew.heap.size w.drew w1 → Pja w1 F J D d N := fun w1 g => H.out.below ⟨g.os, g.tape, g.output, g.size, g.block⟩
  have HK := Lib.hid hK
  clear hF hK h hfr
  obtain ⟨f, hf⟩ : ∃ f, Cr.frame s = f := ⟨_, rfl⟩
  rw [hf] at HF ⊢
  clear hf
  by_cases hful : d.free < f.size
  · rw [if_pos hful]
    have ew : d.write f = d := by unfold Dk.write; rw [if_pos hful]
    have HW := Lib.hid (And.intro ew hful)
    clear ew
    go_enter Try.func22, Try.ntmps22
    go_wp2_with fail
    refine (TL.out _).mono ?_
    rintro e w1 ⟨rfl, rfl⟩
    go_wp2_with fail
    go_region_held3 (fun w' => w'.cell? ⟨J, 0, none⟩ = some (.pointer (some ⟨D, 0, none⟩))) (first | assumption | go_keep) (first | (go_at_call 41; refine (HF.out _).mono ?_; rintro e w2 ⟨rfl, g2⟩; have y2 := (HK.out w2 g2).c0; have cw0 := Write_any (HK.out w2 g2).disk f; rw [HW.out.1, if_pos HW.out.2] at cw0; have cw := Lib.hid cw0; clear cw0; have G2 := Lib.hid g2; clear g2) | (go_at_call 15; refine cw.out.mono ?_; rintro e w3 ⟨rfl, r3, k3⟩; have y3 := ((HK.out w2 G2.out).turn r3 k3).c0; have R3 := Lib.hid (And.intro r3 k3); clear r3 k3))
    have E : Hid (Pja w3 F J D d N ∧ Keeps F w w3) := Lib.hid ⟨(HK.out w2 G2.out).turn R3.out.1 R3.out.2, (((Keeps.refl F w).drewN 1).trans (Keeps.of_below G2.out HB.out)).trans (R3.out.2.mono fun k hk => .inl hk)⟩
    clear R3 G2 y2 y3 cw HK HF H HW
    go_wp2_with fail
    go_ret
    exact ⟨rfl, E.out⟩
  · rw [if_neg hful]
    have ew : d.write f = d.put f := by unfold Dk.write; rw [if_neg hful]
    have HW := Lib.hid (And.intro ew hful)
    clear ew
    go_enter Try.func22, Try.ntmps22
    go_wp2_with fail
    refine (TL.out _).mono ?_
    rintro e w1 ⟨rfl, rfl⟩
    go_wp2_with fail
    go_region_held3 (fun w' => w'.cell? ⟨J, 0, none⟩ = some (.pointer (some ⟨D, 0, none⟩))) (first | assumption | go_keep) (first | (go_at_call 41; refine (HF.out _).mono ?_; rintro e w2 ⟨rfl, g2⟩; have y2 := (HK.out w2 g2).c0; have cw0 := Write_any (HK.out w2 g2).disk f; rw [HW.out.1, if_neg HW.out.2] at cw0; have cw := Lib.hid cw0; clear cw0; have G2 := Lib.hid g2; clear g2) | (go_at_call 15; refine cw.out.mono ?_; rintro e w3 ⟨rfl, r3, k3⟩; have y3 := ((HK.out w2 G2.out).turn r3 k3).c0; have R3 := Lib.hid (And.intro r3 k3); clear r3 k3))
    have J3 := (HK.out w2 G2.out).turn R3.out.1 R3.out.2
    have E : Hid (Pja w3 F J D (d.put f) N ∧ Keeps F w w3) := Lib.hid ⟨J3, (((Keeps.refl F w).drewN 1).trans (Keeps.of_below G2.out HB.out)).trans (R3.out.2.mono fun k hk => .inl hk)⟩
    have cs := Lib.hid (Sync_any J3.disk)
    clear J3 R3 G2 y2 cw HK HF H HW
    go_wp2_with fail
    refine cs.out.mono ?_
    rintro e w4 ⟨rfl, r4, k4⟩
    have J4 := E.out.1.turn r4 k4
    have e1 := J4.c1
    have e2 := J4.f1
    have E4 : Hid (Pja w4 F J D (d.put f).sync N ∧ Keeps F w w4) := Lib.hid ⟨J4, E.out.2.trans (k4.mono fun k hk => .inl hk)⟩
    clear r4 k4 J4 E cs y3
    go_wp2_with fail
    go_ret
    exact ⟨rfl, E4.out.1.count (N + 1), E4.out.2.setCell (p := ⟨J, 1, none⟩) E4.out.1.own _⟩

end Go.Proofs.Ytcjpednhefeboaa
