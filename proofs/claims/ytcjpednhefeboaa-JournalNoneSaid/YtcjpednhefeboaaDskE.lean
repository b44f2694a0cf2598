/- A disk's methods: Replace, Crash; a disk that is none. -/
import Derived.Test.YtcjpednhefeboaaDskD
namespace Go.Proofs.Ytcjpednhefeboaa
open Go.RowKit
set_option linter.unusedVariables false

theorem Write_any {w : World} {F : Nat → Prop} {D : Nat} {d : Dk} (h : At w F D d) (s : ByteArray) :
    Calls Try.prog 15 #[.pointer (some ⟨D, 0, none⟩), .string s] w (Gives (.int .i64 (if d.free < s.size then 9 else 0)) F D (d.write s) w) := by
  unfold Dk.write
  by_cases hs : d.free < s.size
  · rw [if_pos hs, if_pos hs]; exact Write_no h s hs
  · rw [if_neg hs, if_neg hs]; exact Write_yes h s (by omega)

/-- The bytes of a string, laid. -/
theorem row_new (w : World) {F : Nat → Prop} (hF : ∀ k, F k → k < w.heap.size) (s : ByteArray) : ∃ cap w2, (convert 9 59 (.string s)).run Try.prog w = .ok (.slice (some ⟨w.heap.size, 0, none⟩) s.size cap) w2 ∧
    Row w2 F (some ⟨w.heap.size, 0, none⟩) cap s.data.toList ∧ Keeps F w w2 ∧ w.heap.size ≤ w2.heap.size ∧ ∀ k, k < w.heap.size → w2.heap[k]? = w.heap[k]? := by
  have hge := grownCap_ge w s.size 0 5
  have hsz : (bytesRow s (grownCap w s.size 0 5)).size = grownCap w s.size 0 5 := by
    unfold bytesRow
    have : s.data.size = s.size := rfl
    simp; omega
  refine ⟨_, _, run_bytes_of_string w 9 59 5 s Try.underlying9 Try.underlying59 Try.underlying5, .inr ⟨w.heap.size, rfl, fun h => absurd (hF _ h) (Nat.lt_irrefl _), by simp, by rw [Dk.len_data]; exact hge, fun j hj => ?_, fun j hj => ?_, fun j hj => ?_⟩, ((Keeps.refl _ _).drewN 1).alloc hF _, by simp, fun k hk => Below.heap_alloc w.drew _ k hk⟩
  · refine (World.cell?_alloc_mark w.drew _ _ _ j).trans ?_
    exact bytesRow_at s _ j (by simpa using hj)
  · rw [show (w.drew.alloc _).cell? ⟨w.heap.size, j, none⟩ = _ from World.cell?_alloc_mark w.drew _ _ _ j, Array.getElem?_eq_getElem (by rw [hsz]; exact hj)]
    rfl
  · refine (World.frozen?_alloc_mark w.drew _ _ _ _ j).trans ?_
    rw [hsz]
    simp; omega

theorem Replace_no {w : World} {F : Nat → Prop} {D : Nat} {d : Dk} (h : At w F D d) (s : ByteArray) (hs : d.size < s.size) :
    Calls Try.prog 38 #[.pointer (some ⟨D, 0, none⟩), .string s] w (Gives (.int .i64 9) F D d w) := by
  obtain ⟨sa, sc, aa, ac, Q, _⟩ := h.four
  have c0 := Q.c0
  have H := Lib.hid h
  clear h Q
  go_enter Try.func38, Try.ntmps38
  go_wp2_with fail
  go_ret
  exact ⟨rfl, H.out, Keeps.refl _ _⟩

theorem Replace_yes {w : World} {F : Nat → Prop} {D : Nat} {d : Dk} (h : At w F D d) (s : ByteArray) (hs : s.size ≤ d.size) :
    Calls Try.prog 38 #[.pointer (some ⟨D, 0, none⟩), .string s] w (Gives (.int .i64 0) F D (d.swap s) w) := by
  have hlt := h.lt; have hbase := h.base
  obtain ⟨sa, sc, aa, ac, Q, hB, r1, r2, n1, n2, sh, hg⟩ := h.four
  obtain ⟨cap, w2, hconv, q1, q2, q3, q4⟩ := row_new w hbase s
  have c0 := Q.c0
  have F2 := Q.block (q4 D hlt)
  have c2 := F2.c2; have c3 := F2.c3; have f2 := F2.f2; have f3 := F2.f3
  have r1' := r1.kept q3 fun b _ hb => q4 b hb
  have hsh : ∀ a, sa = some a → some (⟨w.heap.size, 0, none⟩ : Addr) = some a → d.S.length ≤ (d.swap s).A.length := by
    intro a e1 e2
    rcases r1 with ⟨rfl, _⟩ | ⟨b, rfl, _, hb, _⟩
    · cases e1
    · rw [← e2] at e1
      injection e1 with e1
      injection e1 with e1 _ _
      omega
  have hn2 : ∀ b, some (⟨w.heap.size, 0, none⟩ : Addr) = some ⟨b, 0, none⟩ → b ≠ D := by
    intro b e
    injection e with e
    injection e with e _ _
    omega
  have hG := hg.replace s
  unfold Dk.replace at hG
  rw [if_neg (by omega)] at hG
  have HG := Lib.hid hG; have HR := Lib.hid (And.intro r1' q1); have HN := Lib.hid (And.intro n1 hn2); have HF := Lib.hid F2; have HS := Lib.hid hsh; have HQ := Lib.hid q2
  clear hG hg r1 r2 r1' n1 n2 hn2 sh hsh Q F2 q1 q2 q3 q4 h hbase hlt
  go_enter Try.func38, Try.ntmps38
  go_wp2_with fail
  go_ret
  exact ⟨rfl, at_of ((HF.out.s2 _).s3 _) rfl (Dk.len_data s).symm hB ((HR.out.1.store HN.out.1).store HN.out.1) ((HR.out.2.store HN.out.2).store HN.out.2) HN.out.1 HN.out.2 HS.out HG.out
    ((HQ.out.setCell (p := ⟨D, 2, none⟩) hB.1 _).setCell (p := ⟨D, 3, none⟩) hB.1 _)⟩

theorem Replace_any {w : World} {F : Nat → Prop} {D : Nat} {d : Dk} (h : At w F D d) (s : ByteArray) :
    Calls Try.prog 38 #[.pointer (some ⟨D, 0, none⟩), .string s] w (Gives (.int .i64 (if d.size < s.size then 9 else 0)) F D (d.replace s) w) := by
  unfold Dk.replace
  by_cases hs : d.size < s.size
  · rw [if_pos hs, if_pos hs]; exact Replace_no h s hs
  · rw [if_neg hs, if_neg hs]; exact Replace_yes h s (by omega)

theorem Crash_lost {w : World} {F : Nat → Prop} {D : Nat} {d : Dk} (h : At w F D d) (k : Int) (hr : d.repl = true) (hk : d.keep k < d.waiting) :
    Calls Try.prog 29 #[.pointer (some ⟨D, 0, none⟩), .int .i64 k] w (Leaves F D d.lost w) := by
  have hw := Waiting_any h
  obtain ⟨sa, sc, aa, ac, Q, hB, r1, r2, n1, n2, sh, hg⟩ := h.four
  have hA := hg.aLe; have hz := hg.sz
  have hwl := d.waiting_le
  have hin := fun w => within_any k d.waiting (by omega) w
  change ∀ w, Calls _ _ _ _ (fun e w' => e = .returned (.int .i64 ((d.keep k : Nat) : Int)) ∧ _) at hin
  obtain ⟨W, hW⟩ : ∃ W, d.waiting = W := ⟨_, rfl⟩
  obtain ⟨K, hK⟩ : ∃ K, d.keep k = K := ⟨_, rfl⟩
  rw [hW] at hw hk hin
  rw [hK] at hk hin
  rw [hr] at Q
  have c1 := Q.c1; have c2 := Q.c2; have c3 := Q.c3; have f2 := Q.f2; have f3 := Q.f3
  have HC := Lib.hid hw; have HI := Lib.hid hin
  have HG := Lib.hid hg; have HR := Lib.hid r1; have HN := Lib.hid n1; have HF := Lib.hid Q
  clear hg r1 r2 n1 n2 sh Q h hw hin hW hK hr hwl hA hz
  go_enter Try.func29, Try.ntmps29
  go_wp2_with fail
  refine HC.out.mono ?_
  rintro e w1 ⟨rfl, n, rfl⟩
  go_wp2_with fail
  refine (HI.out _).mono ?_
  rintro e w1 ⟨rfl, rfl⟩
  go_wp2_with fail
  go_end0
  have e := at_of (w := ((w.setCell ⟨D, 2, none⟩ _).setCell ⟨D, 3, none⟩ _)) (d := d.lost) ((HF.out.s2 (.slice sa d.S.length sc)).s3 (.bool false)) rfl rfl hB ((HR.out.store HN.out).store HN.out) ((HR.out.store HN.out).store HN.out) HN.out HN.out (fun _ _ _ => Nat.le_refl _) HG.out.lost
    (((Keeps.refl F w).setCell (p := ⟨D, 2, none⟩) hB.1 _).setCell (p := ⟨D, 3, none⟩) hB.1 _)
  exact ⟨rfl, e.1, e.2.drewN n⟩

theorem Crash_kept {w : World} {F : Nat → Prop} {D : Nat} {d : Dk} (h : At w F D d) (k : Int) (hr : d.repl = false ∨ (d.repl = true ∧ ¬ d.keep k < d.waiting)) :
    Calls Try.prog 29 #[.pointer (some ⟨D, 0, none⟩), .int .i64 k] w (Leaves F D (d.settle (d.A.length - d.waiting + d.keep k)) w) := by
  have hw := Waiting_any h
  have hkl := d.keep_le k
  have hwl := d.waiting_le
  have hs := fun n => settle_any (w := w.drewN n) h (d.A.length - d.waiting + d.keep k) (by omega)
  obtain ⟨sa, sc, aa, ac, Q, hB, r1, r2, n1, n2, sh, hg⟩ := h.four
  have hA := hg.aLe; have hz := hg.sz
  have hin := fun w => within_any k d.waiting (by omega) w
  change ∀ w, Calls _ _ _ _ (fun e w' => e = .returned (.int .i64 ((d.keep k : Nat) : Int)) ∧ _) at hin
  obtain ⟨E, hE⟩ : ∃ E, d.settle (d.A.length - d.waiting + d.keep k) = E := ⟨_, rfl⟩
  rw [hE] at hs ⊢
  obtain ⟨W, hW⟩ : ∃ W, d.waiting = W := ⟨_, rfl⟩
  obtain ⟨K, hK⟩ : ∃ K, d.keep k = K := ⟨_, rfl⟩
  rw [hW] at hw hr hin hs hwl hkl
  rw [hK] at hr hin hs hkl
  rw [show ((d.A.length - W + K : Nat) : Int) = (d.A.length : Int) - (W : Int) + (K : Int) by omega] at hs
  have c2 := Q.c2; have c3 := Q.c3
  have HC := Lib.hid hw; have HI := Lib.hid hin; have HS := Lib.hid hs
  rcases hr with hr | ⟨hr, hk⟩
  · rw [hr] at c3
    clear hg r1 r2 n1 n2 sh Q h hw hin hs hW hK hE hr
    go_enter Try.func29, Try.ntmps29
    go_wp2_with fail
    refine HC.out.mono ?_
    rintro e w1 ⟨rfl, n, rfl⟩
    go_wp2_with fail
    refine (HI.out _).mono ?_
    rintro e w1 ⟨rfl, rfl⟩
    go_wp2_with fail
    refine (HS.out n).mono ?_
    rintro e w1 ⟨rfl, g1, g2⟩
    have G1 := Lib.hid g1; have G2 := Lib.hid g2; clear g1 g2
    go_wp2_with fail
    go_end0
    exact ⟨rfl, G1.out, ((Keeps.refl F w).drewN n).trans G2.out⟩
  · rw [hr] at c3
    clear hg r1 r2 n1 n2 sh Q h hw hin hs hW hK hE hr
    go_enter Try.func29, Try.ntmps29
    go_wp2_with fail
    refine HC.out.mono ?_
    rintro e w1 ⟨rfl, n, rfl⟩
    go_wp2_with fail
    refine (HI.out _).mono ?_
    rintro e w1 ⟨rfl, rfl⟩
    go_wp2_with fail
    refine (HS.out n).mono ?_
    rintro e w1 ⟨rfl, g1, g2⟩
    have G1 := Lib.hid g1; have G2 := Lib.hid g2; clear g1 g2
    go_wp2_with fail
    go_end0
    exact ⟨rfl, G1.out, ((Keeps.refl F w).drewN n).trans G2.out⟩

theorem Crash_any {w : World} {F : Nat → Prop} {D : Nat} {d : Dk} (h : At w F D d) (k : Int) :
    Calls Try.prog 29 #[.pointer (some ⟨D, 0, none⟩), .int .i64 k] w (Leaves F D (d.crash k) w) := by
  unfold Dk.crash
  split
  · rename_i h1
    exact Crash_lost h k h1.1 h1.2
  · rename_i h1
    refine Crash_kept h k ?_
    rcases hr : d.repl with _ | _
    · exact .inl rfl
    · exact .inr ⟨rfl, fun hk => h1 ⟨hr, hk⟩⟩

end Go.Proofs.Ytcjpednhefeboaa
