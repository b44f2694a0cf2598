/- The program's journal: the frames of a list; Reset. -/
import Derived.Test.YtcjpednhefeboaaPjD
import Derived.Test.YtcjpednhefeboaaBld
namespace Go.Proofs.Ytcjpednhefeboaa
open Go.RowKit
set_option linter.unusedVariables false

theorem Jn.big_yes {S : Nat → ByteArray} {k : Nat} (hk : 16384 < (S k).size) : ∀ n, k < n → Jn.big S n = true
  | n + 1, h => by
    simp only [Jn.big, Bool.or_eq_true, decide_eq_true_eq]
    rcases Nat.lt_or_ge k n with q | q
    · exact .inl (Jn.big_yes hk n q)
    · have : k = n := by omega
      subst this; exact .inr hk
theorem Jn.acc_le (S : Nat → ByteArray) {k : Nat} : ∀ n, k ≤ n → (Jn.acc S k).size ≤ (Jn.acc S n).size
  | 0, h => by have : k = 0 := by omega
               subst this; exact Nat.le_refl _
  | n + 1, h => by
    rcases Nat.lt_or_ge n k with q | q
    · have : k = n + 1 := by omega
      subst this; exact Nat.le_refl _
    · have := Jn.acc_le S n q
      simp only [Jn.acc]
      rw [ByteArray.size_append]; omega

set_option maxHeartbeats 1000000 in
theorem framesOf_any {w : World} {ao : Option Addr} {len cap bb oo : Nat} {S : Nat → ByteArray} (l : Lst w ao len cap bb oo S) (hlen : len ≤ 1048576) :
    Calls Try.prog 43 #[.slice ao len cap] w fun e w' => ∃ k, k ≤ len ∧ e = .returned (.string (Jn.acc S k)) ∧ (k = len ∨ 1048576 < (Jn.acc S k).size) ∧ Below w.heap.size w w' := by
  have L := Lib.hid l
  have b0 := bld_new w w.heap.size (Nat.le_refl _)
  have g0 : Below w.heap.size w (w.alloc (.cells #[.pointer none, .slice none 0 0] 72)) := (Below.refl _ _).alloc (Nat.le_refl _) _
  have hsm := l.small
  have B0 := Lib.hid (And.intro b0 g0)
  clear l b0 g0
  go_enter Try.func43, Try.ntmps43
  go_wp2_with fail
  go_loopw [8] (fun i wr => ∃ k : Nat, k ≤ len ∧ i = .int .i64 k ∧ Hid (Bld w.heap.size w.heap.size (Jn.acc S k) wr ∧ Below w.heap.size w wr)) (fun i _ => len - (intOf i).toNat)
  case atStart => exact ⟨0, Nat.zero_le _, rfl, B0⟩
  case round =>
    obtain ⟨k, hk, rfl, hd⟩ := hrel
    have hz := Jn.acc_size S k
    by_cases hlt : k < len
    · have hidx := L.out.idx k hlt
      have hc := (L.out.below hd.out.2).at0 k hlt
      have HL := Lib.hid (Len_any hd.out.1)
      obtain ⟨z, hzz⟩ : ∃ z : Int, ((Jn.acc S k).size : Int) = z := ⟨_, rfl⟩
      by_cases hbrk : (1048576 : Int) < z
      · have HS := Lib.hid (String_any hd.out.1 hd.out.2.size)
        have E : Hid (1048576 < (Jn.acc S k).size) := Lib.hid (by omega)
        clear hz
        go_wp2_with fail
        refine HL.out.mono ?_
        rintro e w2 ⟨rfl, rfl⟩
        go_wp2_with fail
        refine HS.out.mono ?_
        rintro e w2 ⟨rfl, g2⟩
        have G2 : Hid (Below w.heap.size w w2) := Lib.hid (hd.out.2.trans g2); clear g2
        go_wp2_with fail
        go_ret
        exact ⟨k, hk, rfl, .inr E.out, G2.out⟩
      · have HF := Lib.hid (fun w => Frame_any (S k) w)
        have HZ := Lib.hid (Jn.frm_size (S k))
        have HW := Lib.hid (fun (w2 : World) (h : Bld w.heap.size w.heap.size (Jn.acc S k) w2) (g : w.heap.size ≤ w2.heap.size) => WriteString_any h (Cr.frm (S k)) (by have := HZ.out; omega) g)
        have HE : Hid (Jn.acc S (k + 1) = Jn.acc S k ++ Cr.frm (S k)) := Lib.hid rfl
        have HB : Hid (∀ w1 w2, Bld w.heap.size w.heap.size (Jn.acc S k) w1 → Below w1.heap.size w1 w2 → Bld w.heap.size w.heap.size (Jn.acc S k) w2) := Lib.hid (fun w1 w2 h g => h.below g)
        clear hz
        go_wp2_with fail
        refine HL.out.mono ?_
        rintro e w2 ⟨rfl, rfl⟩
        go_wp2_with fail
        refine (HF.out _).mono ?_
        rintro e w2 ⟨rfl, g2⟩
        have D2 : Hid (Bld w.heap.size w.heap.size (Jn.acc S k) w2 ∧ Below w.heap.size w w2) := Lib.hid ⟨HB.out _ _ hd.out.1 g2, hd.out.2.trans (g2.mono hd.out.2.size)⟩
        clear g2
        go_wp2_with fail
        refine (HW.out _ D2.out.1 D2.out.2.size).mono ?_
        rintro e w3 ⟨rfl, b3, g3⟩
        have D3 : Hid (Bld w.heap.size w.heap.size (Jn.acc S (k + 1)) w3 ∧ Below w.heap.size w w3) := Lib.hid ⟨by rw [HE.out]; exact b3, D2.out.2.trans g3⟩
        clear b3 g3
        go_wp2_with fail
        go_roundw
        case rel => exact ⟨k + 1, by omega, by go_num, D3⟩
        case measure => simp [intOf]; omega
    · have hkl : k = len := by omega
      subst hkl
      have HS := Lib.hid (String_any hd.out.1 hd.out.2.size)
      clear hz
      go_wp2_with fail
      refine HS.out.mono ?_
      rintro e w2 ⟨rfl, g2⟩
      have G2 : Hid (Below w.heap.size w w2) := Lib.hid (hd.out.2.trans g2); clear g2
      go_wp2_with fail
      go_ret
      exact ⟨k, Nat.le_refl _, rfl, .inl rfl, G2.out⟩

theorem IndexFunc_any {w : World} {ao : Option Addr} {len cap bb oo : Nat} {S : Nat → ByteArray} (l : Lst w ao len cap bb oo S) :
    Calls Try.prog 51 #[.slice ao len cap, .func (.func 40) #[] #[]] w fun e w' => ∃ v : Int, e = .returned (.int .i64 v) ∧ (0 ≤ v ↔ Jn.big S len = true) ∧ w = w' := by
  have L := Lib.hid l
  have hsm := l.small
  have he : ∀ args wr, (callFunc 40 args).run Try.prog wr = .ok (.enter 40 args) wr := fun _ _ => rfl
  clear l
  go_enter Try.func51, Try.ntmps51
  go_wp2_with fail
  go_loopw [8] (fun i wr => ∃ k : Nat, k ≤ len ∧ i = .int .i64 k ∧ Hid (Jn.big S k = false) ∧ w = wr) (fun i _ => len - (intOf i).toNat)
  case atStart => exact ⟨0, Nat.zero_le _, rfl, rfl, rfl⟩
  case round =>
    obtain ⟨k, hk, rfl, hbg, rfl⟩ := hrel
    by_cases hlt : k < len
    · have hidx := L.out.idx k hlt
      have hc := L.out.at0 k hlt
      have e2 : Hid (¬ 16384 < (S k).size → Jn.big S (k + 1) = false) := Lib.hid fun q => by simp only [Jn.big, hbg.out, Bool.false_or, decide_eq_false_iff_not]; exact q
      have e3 : Hid (16384 < (S k).size → Jn.big S len = true) := Lib.hid fun q => Jn.big_yes q len hlt
      by_cases hb : 16384 < (S k).size
      · have TL := Lib.hid (tooLong_yes (S k) hb)
        have E : Hid (∃ v : Int, Ending.returned (.int .i64 (k : Int)) = .returned (.int .i64 v) ∧ (0 ≤ v ↔ Jn.big S len = true)) := Lib.hid ⟨k, rfl, by simp [e3.out hb]⟩
        clear hb
        go_wp2_with fail
        refine (TL.out _).mono ?_
        rintro e w1 ⟨rfl, rfl⟩
        go_wp2_with fail
        go_ret
        obtain ⟨v, h1, h2⟩ := E.out
        exact ⟨v, h1, h2, rfl⟩
      · have TL := Lib.hid (tooLong_no (S k) hb)
        have E2 := Lib.hid (e2.out hb)
        clear hb
        go_wp2_with fail
        refine (TL.out _).mono ?_
        rintro e w1 ⟨rfl, rfl⟩
        go_wp2_with fail
        go_roundw
        case rel => exact ⟨k + 1, by omega, by go_num, E2, trivial⟩
        case measure => simp [intOf]; omega
    · have hkl : k = len := by omega
      subst hkl
      have E : Hid (∃ v : Int, Ending.returned (.int .i64 (-1)) = .returned (.int .i64 v) ∧ (0 ≤ v ↔ Jn.big S k = true)) := Lib.hid ⟨-1, rfl, by simp [hbg.out]⟩
      go_wp2_with fail
      go_ret
      obtain ⟨v, h1, h2⟩ := E.out
      exact ⟨v, h1, h2, rfl⟩

theorem ContainsFunc_any {w : World} {ao : Option Addr} {len cap bb oo : Nat} {S : Nat → ByteArray} (l : Lst w ao len cap bb oo S) :
    Calls Try.prog 42 #[.slice ao len cap, .func (.func 40) #[] #[]] w fun e w' => e = .returned (.bool (Jn.big S len)) ∧ w = w' := by
  have h := Lib.hid (IndexFunc_any l)
  clear l
  go_enter Try.func42, Try.ntmps42
  go_wp2_with fail
  refine h.out.mono ?_
  rintro e w1 ⟨v, rfl, hv, rfl⟩
  have e : decide (0 ≤ v) = Jn.big S len := by rw [Bool.eq_iff_iff, decide_eq_true_iff]; exact hv
  have E := Lib.hid e
  clear hv e h
  go_wp2_with fail
  go_ret
  exact ⟨by rw [← E.out]; rfl, rfl⟩

/-- What is put together is more than the disk has. -/
theorem framesOf_full {w : World} {ao : Option Addr} {len cap bb oo : Nat} {S : Nat → ByteArray} (l : Lst w ao len cap bb oo S) (hlen : len ≤ 1048576) {z : Nat} (hz : z ≤ 1048576) (hf : z < (Jn.acc S len).size) :
    Calls Try.prog 43 #[.slice ao len cap] w fun e w' => ∃ f, e = .returned (.string f) ∧ z < f.size ∧ Below w.heap.size w w' :=
  (framesOf_any l hlen).mono fun e w' ⟨k, hk, he, hor, g⟩ => ⟨_, he, hor.elim (fun q => by rw [q]; exact hf) (fun q => Nat.lt_of_le_of_lt hz q), g⟩
theorem framesOf_fits {w : World} {ao : Option Addr} {len cap bb oo : Nat} {S : Nat → ByteArray} (l : Lst w ao len cap bb oo S) (hlen : len ≤ 1048576) {z : Nat} (hz : z ≤ 1048576) (hf : (Jn.acc S len).size ≤ z) :
    Calls Try.prog 43 #[.slice ao len cap] w (RetBelow (.string (Jn.acc S len)) w) :=
  (framesOf_any l hlen).mono fun e w' ⟨k, hk, he, hor, g⟩ => by
    have hkl : k = len := by
      rcases hor with q | q
      · exact q
      · have := Jn.acc_le S len hk
        omega
    subst hkl
    exact ⟨he, g⟩

set_option maxRecDepth 8000 in
set_option maxHeartbeats 1000000 in
theorem Reset_any {w : World} {F : Nat → Prop} {J D N : Nat} {d : Dk} (h : Pja w F J D d N) {ao : Option Addr} {len cap bb oo : Nat} {S : Nat → ByteArray} (l : Lst w ao len cap bb oo S) (hlen : len ≤ 1048576) :
    Calls Try.prog 26 #[.pointer (some ⟨J, 0, none⟩), .slice ao len cap] w (JGives (Jn.reset d N len S).1 F J D (Jn.reset d N len S).2.1 (Jn.reset d N len S).2.2 w) := by
  have hgood : d.Good := by obtain ⟨_, _, _, _, _, _, _, _, _, _, _, hg⟩ := h.disk.four; exact hg
  have hsz : d.size ≤ 1048576 := hgood.sz
  have hc0 := h.c0
  have HB := Lib.hid h.base
  have CF := ContainsFunc_any l
  have hsm := l.small
  unfold Jn.reset
  by_cases hb : Jn.big S len = true
  · rw [if_pos hb]
    rw [hb] at CF
    have H := Lib.hid h; have CF := Lib.hid CF; clear h hb l
    go_enter Try.func26, Try.ntmps26
    go_wp2_with fail
    refine CF.out.mono ?_
    rintro e w1 ⟨rfl, rfl⟩
    go_wp2_with fail
    go_ret
    exact ⟨rfl, H.out, Keeps.refl _ _⟩
  rw [if_neg hb]
  have hb' : Jn.big S len = false := by simpa using hb
  rw [hb'] at CF
  have CF := Lib.hid CF
  have H := Lib.hid h
  have L := Lib.hid l
  have hK : ∀ w1, Below w.drew.heap.size w.drew w1 → Pja w1 F J D d N := fun w1 g => H.out.below ⟨g.os, g.tape, g.output, g.size, g.block⟩
  have HK := Lib.hid hK
  have HL : Hid (Lst w.drew ao len cap bb oo S) := Lib.hid (l.below (Below.drew (Below.refl _ _)))
  clear hK h hb hb' l hgood
  by_cases hful : d.size < (Jn.acc S len).size
  · rw [if_pos hful]
    have HF := Lib.hid (framesOf_full HL.out hlen hsz hful)
    have HW := Lib.hid (fun (w1 : World) (a : At w1 (fun k => F k ∨ k = J) D d) (f : ByteArray) (q : d.size < f.size) => by
      have cr := Replace_any a f
      have er : d.replace f = d := by unfold Dk.replace; rw [if_pos q]
      rw [er, if_pos q] at cr
      exact cr)
    clear hful
    go_enter Try.func26, Try.ntmps26
    go_wp2_with fail
    refine CF.out.mono ?_
    rintro e w1 ⟨rfl, rfl⟩
    go_wp2_with fail
    go_region_held3 (fun w' => w'.cell? ⟨J, 0, none⟩ = some (.pointer (some ⟨D, 0, none⟩))) (first | assumption | go_keep) (first | (go_at_call 43; refine HF.out.mono ?_; rintro e w2 ⟨f, rfl, hff, g2⟩; have y2 := (HK.out w2 g2).c0; have cw := Lib.hid (HW.out w2 (HK.out w2 g2).disk f hff); have G2 := Lib.hid g2; clear g2 hff) | (go_at_call 38; refine cw.out.mono ?_; rintro e w3 ⟨rfl, r3, k3⟩; have y3 := ((HK.out w2 G2.out).turn r3 k3).c0; have R3 := Lib.hid (And.intro r3 k3); clear r3 k3))
    have E : Hid (Pja w3 F J D d N ∧ Keeps F w w3) := Lib.hid ⟨(HK.out w2 G2.out).turn R3.out.1 R3.out.2, (((Keeps.refl F w).drewN 1).trans (Keeps.of_below G2.out HB.out)).trans (R3.out.2.mono fun k hk => .inl hk)⟩
    clear R3 G2 y2 y3 cw HK HF H HW HL L
    go_wp2_with fail
    go_ret
    exact ⟨rfl, E.out⟩
  · rw [if_neg hful]
    have HF := Lib.hid (framesOf_fits HL.out hlen hsz (by omega))
    have HW := Lib.hid (fun (w1 : World) (a : At w1 (fun k => F k ∨ k = J) D d) => by
      have cr := Replace_any a (Jn.acc S len)
      have er : d.replace (Jn.acc S len) = d.swap (Jn.acc S len) := by unfold Dk.replace; rw [if_neg hful]
      rw [er, if_neg hful] at cr
      exact cr)
    clear hful
    obtain ⟨f, hf⟩ : ∃ f, Jn.acc S len = f := ⟨_, rfl⟩
    rw [hf] at HF HW ⊢
    clear hf
    go_enter Try.func26, Try.ntmps26
    go_wp2_with fail
    refine CF.out.mono ?_
    rintro e w1 ⟨rfl, rfl⟩
    go_wp2_with fail
    go_region_held3 (fun w' => w'.cell? ⟨J, 0, none⟩ = some (.pointer (some ⟨D, 0, none⟩))) (first | assumption | go_keep) (first | (go_at_call 43; refine HF.out.mono ?_; rintro e w2 ⟨rfl, g2⟩; have y2 := (HK.out w2 g2).c0; have cw := Lib.hid (HW.out w2 (HK.out w2 g2).disk); have G2 := Lib.hid g2; clear g2) | (go_at_call 38; refine cw.out.mono ?_; rintro e w3 ⟨rfl, r3, k3⟩; have y3 := ((HK.out w2 G2.out).turn r3 k3).c0; have R3 := Lib.hid (And.intro r3 k3); clear r3 k3))
    have J3 := (HK.out w2 G2.out).turn R3.out.1 R3.out.2
    have E : Hid (Pja w3 F J D (d.swap f) N ∧ Keeps F w w3) := Lib.hid ⟨J3, (((Keeps.refl F w).drewN 1).trans (Keeps.of_below G2.out HB.out)).trans (R3.out.2.mono fun k hk => .inl hk)⟩
    have cs := Lib.hid (Sync_any J3.disk)
    clear J3 R3 G2 y2 cw HK HF H HW HL L
    go_wp2_with fail
    refine cs.out.mono ?_
    rintro e w4 ⟨rfl, r4, k4⟩
    have J4 := E.out.1.turn r4 k4
    have e0 := J4.c0
    have e1 := J4.c1
    have e2 := J4.f1
    have E4 : Hid (Pja w4 F J D (d.swap f).sync N ∧ Keeps F w w4) := Lib.hid ⟨J4, E.out.2.trans (k4.mono fun k hk => .inl hk)⟩
    clear r4 k4 J4 E cs y3
    go_wp2_with fail
    go_ret
    exact ⟨rfl, E4.out.1.count len, E4.out.2.setCell (p := ⟨J, 1, none⟩) E4.out.1.own _⟩

/-- What the program's journal is held to: it keeps it. -/
def theJC : JC where
  At := Pja
  disk := fun {w F j D N d} h => h.disk.mono (G := fun _ => False) ((Keeps.refl _ w).mono fun _ h => h) (fun _ q => q.elim) _ fun k q => .inl (.inl q)
  own := fun h => ⟨h.lt, h.own⟩
  mono := fun h g hG hK => h.mono g hG hK
  scan := Scan_any
  open_ := fun h => Open_any h
  append := fun h s hN => Append_any h s hN
  reset := fun h => fun l hl => Reset_any h l hl
  records := fun h => Records_any h

end Go.Proofs.Ytcjpednhefeboaa
