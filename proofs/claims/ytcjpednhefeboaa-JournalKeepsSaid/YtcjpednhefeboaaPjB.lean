/- The program's journal: Scan. -/
import Derived.Test.YtcjpednhefeboaaPjA
namespace Go.Proofs.Ytcjpednhefeboaa
open Go.RowKit
set_option linter.unusedVariables false

/-- How many bytes are left in a cell. -/
def restAt (w : World) (b : Nat) : Nat := match w.cell? ⟨b + 1, 0, none⟩ with
  | some (.string r) => r.size
  | _ => 0
theorem Took.rest {w : World} {b : Nat} {r : ByteArray} {ts : List ByteArray} (h : Took w b r ts) : restAt w b = r.size := by
  obtain ⟨v, _, _, h, _⟩ := h
  unfold restAt; rw [h]

set_option maxHeartbeats 1000000 in
theorem Scan_any (s : ByteArray) (hs : s.size ≤ 1099511627776) (w : World) : Calls Try.prog 9 #[.string s] w (Scans s w) := by
  unfold Scans
  obtain ⟨b, hb⟩ : ∃ b, w.heap.size = b := ⟨_, rfl⟩
  rw [hb]
  have he : ∀ wr, (callFunc 30 #[.pointer (some ⟨b + 1, 0, none⟩), .pointer (some ⟨b, 0, none⟩)]).run Try.prog wr = .ok (.enter 30 #[.pointer (some ⟨b + 1, 0, none⟩), .pointer (some ⟨b, 0, none⟩)]) wr := fun _ => rfl
  have hmf : ∀ (fn : Fn) (first cap : Array Value) (w : World), (Instr.makeFunc fn first cap).run Try.prog w = .ok (.func fn first cap) w := fun _ _ _ _ => rfl
  have hT0 : Took ((w.alloc (.cells #[.slice none 0 0] 23)).alloc (.cells #[.string s] 9)) b s [] := by
    have z1 : (w.alloc (.cells #[.slice none 0 0] 23)).heap.size = b + 1 := by simp [hb]
    have q1 := World.cell?_alloc_at (w := w.alloc (.cells #[.slice none 0 0] 23)) #[.string s] 9 (b + 1) 0 z1.symm
    have q2 := World.frozen?_alloc_at (w := w.alloc (.cells #[.slice none 0 0] 23)) #[.string s] 9 (b + 1) 0 z1.symm
    have q3 := World.cell?_alloc_at (w := w) #[.slice none 0 0] 23 b 0 hb.symm
    have q4 := World.frozen?_alloc_at (w := w) #[.slice none 0 0] 23 b 0 hb.symm
    exact ⟨.slice none 0 0, (World.cell?_alloc_past (w := w.alloc _) _ b 0 (by omega)).trans q3, (World.frozen?_alloc_past (w := w.alloc _) _ b 0 (by omega)).trans q4, q1, q2, World.ownsRow_nil _ _ _ _⟩
  have hB0 : Below b w ((w.alloc (.cells #[.slice none 0 0] 23)).alloc (.cells #[.string s] 9)) := Below.alloc (Below.alloc (Below.refl _ _) (by omega) _) (by simp; omega) _
  have T0 := Lib.hid hT0; have B0 := Lib.hid hB0; have HB := Lib.hid hb
  clear hT0 hB0
  go_enter Try.func9, Try.ntmps9
  go_wp2_with fail
  go_loopw [] (fun wr => ∃ (ts : List ByteArray) (n : Nat), n ≤ s.size ∧ Hid (Jn.Part s ts n ∧ Below b w wr ∧ Took wr b (s.extract n s.size) ts)) (fun wr => restAt wr b)
  case atStart =>
    refine ⟨[], 0, Nat.zero_le _, Jn.Part.start s, B0.out, ?_⟩
    rw [Jn.cut_none]; exact T0.out
  case round =>
    obtain ⟨ts, n, hn, hd⟩ := hrel
    have hts := hd.out.1.small_scan
    have hT := hd.out.2.2
    obtain ⟨rd, hrd⟩ : ∃ rd, Cr.read (s.extract n s.size) = rd := ⟨_, rfl⟩
    obtain ⟨x, m, er⟩ := rd
    have HRD := Lib.hid hrd
    have hzz : (s.extract n s.size).size = s.size - n := by rw [ByteArray.size_extract]; omega
    by_cases h0 : er = 0
    · subst h0
      obtain ⟨m', hm, hm8, hms, hx, -⟩ := Cr.read_range (s.extract n s.size) (by rw [HRD.out])
      rw [HRD.out] at hm hx
      rw [hzz] at hms
      simp only at hm hx
      subst hm
      have hcall := Lib.hid (take_yes hT hrd (by omega))
      have HCC := Lib.hid (Jn.cut_cut s n m' (by omega))
      have hM := Lib.hid hT.rest
      have hP := Lib.hid (hd.out.1.next HRD.out)
      clear hrd hx hT
      go_wp2_with fail
      refine hcall.out.mono ?_
      rintro e w2 ⟨rfl, hT2, g2⟩
      rw [HCC.out] at hT2
      have hM2 := Lib.hid hT2.rest
      have D2 : Hid (Jn.Part s (ts ++ [x]) (n + m') ∧ Below b w w2 ∧ Took w2 b (s.extract (n + m') s.size) (ts ++ [x])) := Lib.hid ⟨hP.out, hd.out.2.1.trans (g2.mono (Nat.le_refl _)), hT2⟩
      clear g2 hT2 hcall HCC hP HRD
      go_wp2_with fail
      go_roundw
      case rel => exact ⟨ts ++ [x], n + m', by omega, D2⟩
      case measure =>
        rw [hM.out, hM2.out, hzz, ByteArray.size_extract]; omega
    · have hP := hd.out.1.done (by rw [HRD.out]; exact h0)
      have hcall := Lib.hid (take_no hT (by rw [hrd]; exact h0))
      have HT := Lib.hid hT
      clear hrd hT
      go_wp2_with fail
      refine hcall.out.mono ?_
      rintro e w2 ⟨rfl, g2⟩
      have hT2 := HT.out.below g2
      obtain ⟨v, c0, _, c1, _, hown⟩ := hT2
      obtain ⟨ao, cap, rfl, ht, hB⟩ := Texts.of_owned hown (by omega)
      have hsub : ((s.size : Int) - ((s.size - n : Nat) : Int)) = (n : Int) := by omega
      have R : Hid (∀ k, ∃ ao' cap', Ending.returned (.tuple #[.slice ao ts.length cap, .int .i64 ((s.size : Int) - ((s.size - n : Nat) : Int))]) = .returned (.tuple #[.slice ao' (Jn.scan s).1.length cap', .int .i64 ((Jn.scan s).2 : Int)]) ∧ Texts (w2.drewN k) ao' cap' (Jn.scan s).1 ∧ (∀ g, ao' = some ⟨g, 0, none⟩ → b ≤ g) ∧ Below b w (w2.drewN k)) :=
        Lib.hid (by
          intro k
          rw [hP, hsub]
          exact ⟨ao, cap, rfl, ht, fun g e => by have := hB g e; omega, below_drewN (hd.out.2.1.trans (g2.mono (by have := HT.out.lt; omega))) k⟩)
      clear g2 hP hcall hsub ht hB hown HT HRD
      go_wp2_with fail
      go_quiet (fail)
      go_wp2_with fail
      go_ret2
      exact R.out _

end Go.Proofs.Ytcjpednhefeboaa
