/- The plain answer's journal: Append, Reset. -/
import Derived.Test.YtcjpednhefeboaaRjn
namespace Go.Proofs.Ytcjpednhefeboaa
open Go.RowKit
set_option linter.unusedVariables false

/-- Behind one of the journal's methods: its two blocks alone, of what was there, have turned. -/
def RJGives (v : Int) (J X : Nat) (d : Dk) (N : Nat) (w : World) (e : Ending) (w' : World) : Prop := e = .returned (.int .i64 v) ∧ Rja w' J X d N ∧ Keeps (fun k => k < w.heap.size ∧ ¬ k = X ∧ ¬ k = J) w w'

set_option maxHeartbeats 1000000 in
theorem rjAppend_any {w : World} {J X N : Nat} {d : Dk} (h : Rja w J X d N) (s : ByteArray) (hN : N ≤ 1099511627776) :
    Calls Try.prog 23 #[.pointer (some ⟨J, 0, none⟩), .string s] w (RJGives (Jn.app d N s).1 J X (Jn.app d N s).2.1 (Jn.app d N s).2.2 w) := by
  unfold Jn.app
  by_cases hb : 16384 < s.size
  · rw [if_pos hb]
    have H := Lib.hid h; clear h
    go_enter Try.func23, Try.ntmps23
    go_wp2_with fail
    go_ret
    exact ⟨rfl, H.out, Keeps.refl _ _⟩
  rw [if_neg hb]
  have hfr : Cr.frm s = Cr.frame s := by unfold Cr.frm; rw [if_pos (by omega)]
  have hc0 := h.c0
  have hJ := h.lt; have hX := h.disk.lt
  have H := Lib.hid h
  have hF := fun w => rFrame_any s w
  rw [hfr] at hF
  have HF := Lib.hid hF
  have hK : ∀ w1, Below w.drew.heap.size w.drew w1 → Rja w1 J X d N := fun w1 g => (H.out.drewN 1).block (g.block J hJ) (g.block X hX)
  have HK := Lib.hid hK
  clear hF hK h hfr
  obtain ⟨f, hf⟩ : ∃ f, Cr.frame s = f := ⟨_, rfl⟩
  rw [hf] at HF ⊢
  clear hf
  by_cases hful : d.free < f.size
  · rw [if_pos hful]
    go_enter Try.func23, Try.ntmps23
    go_wp2_with fail
    go_region_held3 (fun w' => w'.cell? ⟨J, 0, none⟩ = some (.pointer (some ⟨X, 0, none⟩))) (first | assumption | go_keep) (first | (go_at_call 28; refine (HF.out _).mono ?_; rintro e w2 ⟨rfl, g2⟩; have y2 := (HK.out w2 g2).c0; have cw := Lib.hid (rdWrite_any (HK.out w2 g2).disk f); have G2 := Lib.hid g2; clear g2) | (go_at_call 16; refine cw.out.mono ?_; rintro e w3 ⟨rfl, r3, k3⟩; have y3 := ((HK.out w2 G2.out).turn r3 k3).c0; have R3 := Lib.hid (And.intro r3 k3); clear r3 k3))
    have ew : d.write f = d := by unfold Dk.write; rw [if_pos hful]
    have r3 := R3.out.1
    rw [ew] at r3
    have E : Hid (Rja w3 J X d N ∧ Keeps (fun k => k < w.heap.size ∧ ¬ k = X ∧ ¬ k = J) w w3) := Lib.hid ⟨(HK.out w2 G2.out).turn r3 R3.out.2, (((Keeps.refl _ w).drewN 1).trans (Keeps.of_below G2.out fun k hk => hk.1)).trans (R3.out.2.mono fun k hk => hk.2.1)⟩
    clear ew r3 R3 G2 y2 y3 cw HK HF H
    go_wp2_with fail
    go_ret
    exact ⟨rfl, E.out⟩
  · rw [if_neg hful]
    have ew : d.write f = d.put f := by unfold Dk.write; rw [if_neg hful]
    go_enter Try.func23, Try.ntmps23
    go_wp2_with fail
    go_region_held3 (fun w' => w'.cell? ⟨J, 0, none⟩ = some (.pointer (some ⟨X, 0, none⟩))) (first | assumption | go_keep) (first | (go_at_call 28; refine (HF.out _).mono ?_; rintro e w2 ⟨rfl, g2⟩; have y2 := (HK.out w2 g2).c0; have cw := Lib.hid (rdWrite_any (HK.out w2 g2).disk f); have G2 := Lib.hid g2; clear g2) | (go_at_call 16; refine cw.out.mono ?_; rintro e w3 ⟨rfl, r3, k3⟩; have y3 := ((HK.out w2 G2.out).turn r3 k3).c0; have R3 := Lib.hid (And.intro r3 k3); clear r3 k3))
    have r3 := R3.out.1
    rw [ew] at r3
    have J3 := (HK.out w2 G2.out).turn r3 R3.out.2
    have E : Hid (Rja w3 J X (d.put f) N ∧ Keeps (fun k => k < w.heap.size ∧ ¬ k = X ∧ ¬ k = J) w w3) := Lib.hid ⟨J3, (((Keeps.refl _ w).drewN 1).trans (Keeps.of_below G2.out fun k hk => hk.1)).trans (R3.out.2.mono fun k hk => hk.2.1)⟩
    have cs := Lib.hid (rdSync_any J3.disk)
    clear ew r3 J3 R3 G2 y2 cw HK HF H
    go_wp2_with fail
    refine cs.out.mono ?_
    rintro e w4 ⟨rfl, r4, k4⟩
    have J4 := E.out.1.turn r4 k4
    have e1 := J4.c1
    have e2 := J4.f1
    have E4 : Hid (Rja w4 J X (d.put f).sync N ∧ Keeps (fun k => k < w.heap.size ∧ ¬ k = X ∧ ¬ k = J) w w4) := Lib.hid ⟨J4, E.out.2.trans (k4.mono fun k hk => hk.2.1)⟩
    clear r4 k4 J4 E cs y3
    go_wp2_with fail
    go_ret
    have J5 := E4.out.1.count (N + 1)
    exact ⟨rfl, J5, E4.out.2.setCell (p := ⟨J, 1, none⟩) (fun h => h.2.2 rfl) _⟩

namespace Jn
/-- The frames of the first texts, as they are put together. -/
def acc (S : Nat → ByteArray) : Nat → ByteArray
  | 0 => ⟨#[]⟩
  | n + 1 => acc S n ++ Cr.frm (S n)
/-- Is one of the first texts too great? -/
def big (S : Nat → ByteArray) : Nat → Bool
  | 0 => false
  | n + 1 => big S n || decide (16384 < (S n).size)
theorem frm_size (s : ByteArray) : (Cr.frm s).size ≤ 16392 := by
  unfold Cr.frm
  split
  · rw [Cr.frame_size]; omega
  · decide
theorem acc_size (S : Nat → ByteArray) : ∀ n, (acc S n).size ≤ n * 16392
  | 0 => by simp [acc, ByteArray.size]
  | n + 1 => by
    have := acc_size S n
    have := frm_size (S n)
    simp only [acc]
    rw [ByteArray.size_append]; omega
theorem big_no {S : Nat → ByteArray} : ∀ {n : Nat}, big S n = false → ∀ i, i < n → (S i).size ≤ 16384
  | n + 1, h, i, hi => by
    simp only [big, Bool.or_eq_false_iff, decide_eq_false_iff_not] at h
    rcases Nat.lt_or_ge i n with q | q
    · exact big_no h.1 i q
    · have : i = n := by omega
      subst this; omega
theorem acc_frames {S : Nat → ByteArray} : ∀ {n : Nat}, big S n = false → acc S n = frames ((List.range n).map S)
  | 0, _ => rfl
  | n + 1, h => by
    have hs := big_no h n (by omega)
    simp only [big, Bool.or_eq_false_iff] at h
    simp only [acc]
    rw [List.range_succ, List.map_append, List.map_singleton, frames_snoc, acc_frames h.1]
    unfold Cr.frm
    rw [if_pos hs]
/-- What Reset makes: the answer, the disk, how many. -/
def reset (d : Dk) (N len : Nat) (S : Nat → ByteArray) : Int × Dk × Nat := if big S len = true then (8, d, N) else if d.size < (acc S len).size then (9, d, N) else (0, (d.swap (acc S len)).sync, len)
end Jn

set_option maxRecDepth 8000 in
set_option maxHeartbeats 1000000 in
theorem rjReset_any {w : World} {J X N : Nat} {d : Dk} (h : Rja w J X d N) {ao : Option Addr} {len cap bb oo : Nat} {S : Nat → ByteArray} (l : Lst w ao len cap bb oo S) (hlen : len ≤ 1048576) :
    Calls Try.prog 27 #[.pointer (some ⟨J, 0, none⟩), .slice ao len cap] w (RJGives (Jn.reset d N len S).1 J X (Jn.reset d N len S).2.1 (Jn.reset d N len S).2.2 w) := by
  have H := Lib.hid h; have L := Lib.hid l
  have hJ := h.lt; have hX := h.disk.lt
  clear h l
  go_enter Try.func27, Try.ntmps27
  go_wp2_with fail
  go_loopw [5, 6, 7] (fun s b i wr => ∃ k : Nat, k ≤ len ∧ i = .int .i64 k ∧ s = .string (Jn.acc S k) ∧ b = .bool (Jn.big S k) ∧ Hid (Below w.heap.size w wr)) (fun _ _ i _ => len - (intOf i).toNat)
  case atStart => exact ⟨0, Nat.zero_le _, rfl, rfl, rfl, Below.refl _ _⟩
  case round =>
    obtain ⟨k, hk, rfl, rfl, rfl, hg⟩ := hrel
    have hz := Jn.acc_size S k
    by_cases hlt : k < len
    · have hidx := L.out.idx k hlt
      have hc := (L.out.below hg.out).at0 k hlt
      have e1 : Jn.acc S (k + 1) = Jn.acc S k ++ Cr.frm (S k) := rfl
      have e2 : Jn.big S (k + 1) = (Jn.big S k || decide (16384 < (S k).size)) := rfl
      obtain ⟨x, hx⟩ : ∃ x, S k = x := ⟨_, rfl⟩
      rw [hx] at hc e1 e2
      have hf := rFrame_any x
      have hfz := Jn.frm_size x
      obtain ⟨f, hf'⟩ : ∃ f, Cr.frm x = f := ⟨_, rfl⟩
      rw [hf'] at hf e1 hfz
      obtain ⟨a, ha⟩ : ∃ a, Jn.acc S k = a := ⟨_, rfl⟩
      obtain ⟨b, hb⟩ : ∃ b, Jn.big S k = b := ⟨_, rfl⟩
      rw [ha] at e1 hz ⊢
      rw [hb] at e2 ⊢
      have HF := Lib.hid hf; have E1 := Lib.hid e1
      clear hf hf' hx ha hb e1
      rcases b with _ | _
      · have E2 := Lib.hid e2; clear e2
        go_wp2_with fail
        refine (HF.out _).mono ?_
        rintro e w2 ⟨rfl, g2⟩
        have G2 : Hid (Below w.heap.size w w2) := Lib.hid (hg.out.trans (g2.mono hg.out.size)); clear g2
        go_wp2_with fail
        go_roundw
        case rel => exact ⟨k + 1, by omega, by go_num, by rw [E1.out], (by rw [E2.out]; first | (simp; done) | (simp; omega)), G2⟩
        case measure => simp [intOf]; omega
      · have E2 := Lib.hid e2; clear e2
        go_wp2_with fail
        refine (HF.out _).mono ?_
        rintro e w2 ⟨rfl, g2⟩
        have G2 : Hid (Below w.heap.size w w2) := Lib.hid (hg.out.trans (g2.mono hg.out.size)); clear g2
        go_wp2_with fail
        go_roundw
        case rel => exact ⟨k + 1, by omega, by go_num, by rw [E1.out], (by rw [E2.out]; first | (simp; done) | (simp; omega)), G2⟩
        case measure => simp [intOf]; omega
    · have hkl : k = len := by omega
      subst hkl
      have J1 : Rja _ J X d N := H.out.block (hg.out.block J hJ) (hg.out.block X hX)
      have HJ := Lib.hid J1
      have hc0 := J1.c0
      clear J1
      have HG := Lib.hid ((Keeps.of_below (F := fun k => k < w.heap.size ∧ ¬ k = X ∧ ¬ k = J) hg.out fun k hk => hk.1))
      have hres : Jn.reset d N k S = if Jn.big S k = true then (8, d, N) else if d.size < (Jn.acc S k).size then (9, d, N) else (0, (d.swap (Jn.acc S k)).sync, k) := rfl
      obtain ⟨a, ha⟩ : ∃ a, Jn.acc S k = a := ⟨_, rfl⟩
      obtain ⟨b, hb⟩ : ∃ b, Jn.big S k = b := ⟨_, rfl⟩
      rw [ha, hb] at hres
      rw [ha, hb]
      rw [ha] at hz
      clear ha hb
      rcases b with _ | _
      · rw [if_neg (by simp)] at hres
        by_cases hful : d.size < a.size
        · rw [if_pos hful] at hres
          have er : d.replace a = d := by unfold Dk.replace; rw [if_pos hful]
          have cr := rdReplace_any HJ.out.disk a
          rw [er, if_pos hful] at cr
          have CR := Lib.hid cr; have RES := Lib.hid hres
          clear cr er hful hres
          go_wp2_with fail
          refine CR.out.mono ?_
          rintro e w2 ⟨rfl, r2, k2⟩
          have E : Hid (Ending.returned (.int .i64 9) = .returned (.int .i64 (Jn.reset d N k S).1) ∧ Rja w2 J X (Jn.reset d N k S).2.1 (Jn.reset d N k S).2.2 ∧ Keeps (fun k => k < w.heap.size ∧ ¬ k = X ∧ ¬ k = J) w w2) := Lib.hid (by rw [RES.out]; exact ⟨rfl, HJ.out.turn r2 k2, HG.out.trans (k2.mono fun k hk => hk.2.1)⟩)
          clear r2 k2 CR
          go_wp2_with fail
          go_ret
          exact E.out
        · rw [if_neg hful] at hres
          have er : d.replace a = d.swap a := by unfold Dk.replace; rw [if_neg hful]
          have cr := rdReplace_any HJ.out.disk a
          rw [er, if_neg hful] at cr
          have CR := Lib.hid cr; have RES := Lib.hid hres
          clear cr er hful hres
          go_wp2_with fail
          refine CR.out.mono ?_
          rintro e w2 ⟨rfl, r2, k2⟩
          have J2 := HJ.out.turn r2 k2
          have cs := Lib.hid (rdSync_any J2.disk)
          have hc2 := J2.c0
          have E : Hid (Rja w2 J X (d.swap a) N ∧ Keeps (fun k => k < w.heap.size ∧ ¬ k = X ∧ ¬ k = J) w w2) := Lib.hid ⟨J2, HG.out.trans (k2.mono fun k hk => hk.2.1)⟩
          clear r2 k2 CR J2
          go_wp2_with fail
          refine cs.out.mono ?_
          rintro e w3 ⟨rfl, r3, k3⟩
          have J3 := E.out.1.turn r3 k3
          have e1 := J3.c1
          have e2 := J3.f1
          have E3 : Hid (Ending.returned (.int .i64 0) = .returned (.int .i64 (Jn.reset d N k S).1) ∧ Rja (w3.setCell ⟨J, 1, none⟩ (.int .i64 (k : Int))) J X (Jn.reset d N k S).2.1 (Jn.reset d N k S).2.2 ∧ Keeps (fun k => k < w.heap.size ∧ ¬ k = X ∧ ¬ k = J) w (w3.setCell ⟨J, 1, none⟩ (.int .i64 (k : Int)))) := Lib.hid (by rw [RES.out]; exact ⟨rfl, J3.count k, (E.out.2.trans (k3.mono fun k hk => hk.2.1)).setCell (p := ⟨J, 1, none⟩) (fun h => h.2.2 rfl) _⟩)
          clear r3 k3 cs J3 E
          go_wp2_with fail
          go_ret
          exact E3.out
      · rw [if_pos rfl] at hres
        have E : Hid (Ending.returned (.int .i64 8) = .returned (.int .i64 (Jn.reset d N k S).1) ∧ Rja wr J X (Jn.reset d N k S).2.1 (Jn.reset d N k S).2.2 ∧ Keeps (fun k => k < w.heap.size ∧ ¬ k = X ∧ ¬ k = J) w wr) := Lib.hid (by rw [hres]; exact ⟨rfl, HJ.out, HG.out⟩)
        clear hres
        go_wp2_with fail
        go_ret
        exact E.out

end Go.Proofs.Ytcjpednhefeboaa
