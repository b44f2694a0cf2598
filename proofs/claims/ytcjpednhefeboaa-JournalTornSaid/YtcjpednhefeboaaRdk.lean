/- The plain answer's disk, whatever it holds: it goes as a disk's plain state goes. -/
import Derived.Test.YtcjpednhefeboaaDskD
import Derived.RegionTactic
namespace Go.Proofs.Ytcjpednhefeboaa
open Go.RowKit
set_option linter.unusedVariables false

namespace Dk
/-- What waits. -/
def waits (d : Dk) : List UInt8 := if d.repl then d.A else d.A.drop d.S.length
theorem waits_len {d : Dk} : d.waits.length = d.waiting := by
  unfold Dk.waits Dk.waiting
  split
  · rfl
  · rw [List.length_drop]
theorem settle_waits (d : Dk) (n : Nat) : (d.settle n).waits = [] := by
  unfold Dk.waits Dk.settle
  simp
theorem lost_waits (d : Dk) : d.lost.waits = [] := by
  unfold Dk.waits Dk.lost
  simp
theorem crash_waits (d : Dk) (k : Int) : (d.crash k).waits = [] := by
  unfold Dk.crash
  split
  · exact lost_waits d
  · exact settle_waits d _
theorem crash_repl (d : Dk) (k : Int) : (d.crash k).repl = false := by
  unfold Dk.crash
  split <;> rfl
theorem crash_size (d : Dk) (k : Int) : (d.crash k).size = d.size := by
  unfold Dk.crash
  split <;> rfl
/-- Nothing is replaced: what is safe and the first bytes of what waits. -/
theorem crash_plain {d : Dk} (h : d.Good) (hr : d.repl = false) (k : Int) : (d.crash k).S = d.S ++ d.waits.take (d.keep k) := by
  have hp := h.pre hr
  have hl := hp.length_le
  have hw : d.waiting = d.A.length - d.S.length := by unfold Dk.waiting; rw [hr]; rfl
  unfold Dk.crash Dk.waits
  rw [if_neg (by rw [hr]; simp), hr, hw]
  simp only [Dk.settle]
  obtain ⟨r, hr'⟩ := hp
  rw [← hr', if_neg (by simp), List.drop_left, List.length_append]
  rw [show d.S.length + r.length - (d.S.length + r.length - d.S.length) + d.keep k = d.S.length + d.keep k by omega, List.take_length_add_append]
theorem crash_whole {d : Dk} (hr : d.repl = true) (k : Int) (hk : d.keep k = d.waits.length) : (d.crash k).S = d.waits := by
  rw [waits_len] at hk
  have hw : d.waiting = d.A.length := by unfold Dk.waiting; rw [hr]; rfl
  unfold Dk.crash
  rw [if_neg (by omega)]
  unfold Dk.waits
  rw [if_pos hr]
  simp only [Dk.settle]
  rw [hk, hw, Nat.sub_self, Nat.zero_add, List.take_length]
theorem crash_gone {d : Dk} (hr : d.repl = true) (k : Int) (hk : ¬ d.keep k = d.waits.length) : (d.crash k).S = d.S := by
  rw [waits_len] at hk
  have := keep_le d k
  unfold Dk.crash
  rw [if_pos ⟨hr, by omega⟩]
  rfl
theorem crash_sync {d : Dk} (h : d.Good) : d.crash (d.waits.length : Int) = d.sync := by
  have hk : d.keep (d.waits.length : Int) = d.waiting := by unfold Dk.keep; rw [waits_len]; omega
  have hw := waiting_le (d := d)
  unfold Dk.crash Dk.sync
  rw [hk, if_neg (by omega), show d.A.length - d.waiting + d.waiting = d.A.length by omega]
theorem put_waits {d : Dk} (h : d.Good) (s : ByteArray) : (d.put s).waits = d.waits ++ s.data.toList := by
  unfold Dk.waits Dk.put
  rcases hr : d.repl with _ | _
  · have hl := (h.pre hr).length_le
    simp only
    rw [List.drop_append_of_le_length hl]
    rfl
  · rfl
theorem free_plain {d : Dk} (h : d.Good) : (d.free : Int) = if d.repl then (d.size : Int) - (d.waits.length : Int) else (d.size : Int) - (d.S.length : Int) - (d.waits.length : Int) := by
  have ha := h.aLe
  rcases hr : d.repl with _ | _
  · have hl := (h.pre hr).length_le
    have hw : d.waits = d.A.drop d.S.length := by unfold Dk.waits; rw [hr]; rfl
    have hw' : d.waits.length = d.A.length - d.S.length := by rw [hw, List.length_drop]
    rw [if_neg (by simp), hw']
    unfold Dk.free
    omega
  · have hw : d.waits = d.A := by unfold Dk.waits; rw [hr]; rfl
    rw [if_pos rfl, hw]
    unfold Dk.free
    omega
end Dk

/-- The plain answer's disk in memory. -/
def Rat (w : World) (X : Nat) (d : Dk) : Prop := Four w X (.int .i64 (d.size : Int)) (.string ⟨d.S.toArray⟩) (.string ⟨d.waits.toArray⟩) (.bool d.repl) ∧ d.Good
theorem Rat.block {w w' : World} {X : Nat} {d : Dk} (h : Rat w X d) (e : w'.heap[X]? = w.heap[X]?) : Rat w' X d := ⟨h.1.block e, h.2⟩
theorem Rat.lt {w : World} {X : Nat} {d : Dk} (h : Rat w X d) : X < w.heap.size := World.block_lt_of_cell? w _ h.1.c0
theorem Rat.drewN {w : World} {X : Nat} {d : Dk} (h : Rat w X d) (n : Nat) : Rat (w.drewN n) X d := ⟨⟨h.1.c0, h.1.c1, h.1.c2, h.1.c3, h.1.f1, h.1.f2, h.1.f3⟩, h.2⟩
/-- Behind one of its methods: X's block alone has turned. -/
def RGives (v : Value) (X : Nat) (d : Dk) (w : World) (e : Ending) (w' : World) : Prop := e = .returned v ∧ Rat w' X d ∧ Keeps (fun k => ¬ k = X) w w'

theorem arr_size (l : List UInt8) : (⟨l.toArray⟩ : ByteArray).size = l.length := by simp [ByteArray.size]

theorem rdFree_any {w : World} {X : Nat} {d : Dk} (h : Rat w X d) :
    Calls Try.prog 35 #[.pointer (some ⟨X, 0, none⟩)] w (RetDrew (.int .i64 (d.free : Int)) w) := by
  have hz := h.2.sz; have hs := h.2.sLe; have ha := h.2.aLe
  have hw : d.waits.length ≤ d.A.length := by rw [Dk.waits_len]; exact Dk.waiting_le
  have hf := Dk.free_plain h.2
  have hfr : (d.free : Int) ≤ 1048576 := by unfold Dk.free; omega
  have c0 := h.1.c0; have c1 := h.1.c1; have c2 := h.1.c2; have c3 := h.1.c3
  have z1 := arr_size d.S
  have z2 := arr_size d.waits
  obtain ⟨p1, hp1⟩ : ∃ p1, (⟨d.S.toArray⟩ : ByteArray) = p1 := ⟨_, rfl⟩
  obtain ⟨p2, hp2⟩ : ∃ p2, (⟨d.waits.toArray⟩ : ByteArray) = p2 := ⟨_, rfl⟩
  rw [hp1] at c1 z1
  rw [hp2] at c2 z2
  rw [← z1, ← z2] at hf
  rw [← z1] at hs
  rw [← z2] at hw
  clear hp1 hp2 h z1 z2
  obtain ⟨q, hq⟩ : ∃ q, d.repl = q := ⟨_, rfl⟩
  rw [hq] at c3 hf
  clear hq
  rcases q with _ | _
  · rw [if_neg (by simp)] at hf
    have HF := Lib.hid hf; clear hf
    go_enter Try.func35, Try.ntmps35
    go_wp2_with fail
    go_quiet (fail)
    go_wp2_with fail
    go_ret
    have hf := HF.out
    refine ⟨ret_i64 ?_, _, rfl⟩
    omega
  · rw [if_pos rfl] at hf
    have HF := Lib.hid hf; clear hf
    go_enter Try.func35, Try.ntmps35
    go_wp2_with fail
    go_quiet (fail)
    go_wp2_with fail
    go_ret
    have hf := HF.out
    refine ⟨ret_i64 ?_, _, rfl⟩
    omega

theorem Four.drewN {w : World} {D : Nat} {v0 v1 v2 v3 : Value} (h : Four w D v0 v1 v2 v3) (n : Nat) : Four (w.drewN n) D v0 v1 v2 v3 := ⟨h.c0, h.c1, h.c2, h.c3, h.f1, h.f2, h.f3⟩
theorem arr_app (l : List UInt8) (s : ByteArray) : (⟨l.toArray⟩ : ByteArray) ++ s = ⟨(l ++ s.data.toList).toArray⟩ := by
  apply ByteArray.ext
  apply Array.ext'
  simp [ByteArray.data_append]

theorem rdWrite_any {w : World} {X : Nat} {d : Dk} (h : Rat w X d) (s : ByteArray) :
    Calls Try.prog 16 #[.pointer (some ⟨X, 0, none⟩), .string s] w (RGives (.int .i64 (if d.free < s.size then 9 else 0)) X (d.write s) w) := by
  have hf := rdFree_any h
  have hz := h.2.sz
  have ha := h.2.aLe
  have hfr : d.free ≤ 1048576 := by unfold Dk.free; omega
  unfold Dk.write
  by_cases hs : d.free < s.size
  · rw [if_pos hs, if_pos hs]
    have H := Lib.hid h; have HF := Lib.hid hf
    clear h hf
    go_enter Try.func16, Try.ntmps16
    go_wp2_with fail
    refine HF.out.mono ?_
    rintro e w1 ⟨rfl, n, rfl⟩
    go_wp2_with fail
    go_ret
    exact ⟨rfl, H.out.drewN n, (Keeps.refl _ _).drewN n⟩
  · rw [if_neg hs, if_neg hs]
    have hG := h.2.write s
    unfold Dk.write at hG
    rw [if_neg hs] at hG
    have c2 := h.1.c2; have f2 := h.1.f2
    have z2 : (⟨d.waits.toArray⟩ : ByteArray).size ≤ 1048576 := by rw [arr_size, Dk.waits_len]; have := Dk.waiting_le (d := d); omega
    have hT : Rat (w.setCell ⟨X, 2, none⟩ (.string ((⟨d.waits.toArray⟩ : ByteArray) ++ s))) X (d.put s) := by
      refine ⟨?_, hG⟩
      have := h.1.s2 (.string ((⟨d.waits.toArray⟩ : ByteArray) ++ s))
      rw [arr_app, ← Dk.put_waits h.2 s] at this ⊢
      exact this
    obtain ⟨p2, hp2⟩ : ∃ p2, (⟨d.waits.toArray⟩ : ByteArray) = p2 := ⟨_, rfl⟩
    rw [hp2] at c2 z2 hT
    have HT := Lib.hid hT; have HF := Lib.hid hf
    clear h hf hT hG hp2
    go_enter Try.func16, Try.ntmps16
    go_wp2_with fail
    refine HF.out.mono ?_
    rintro e w1 ⟨rfl, n, rfl⟩
    go_wp2_with fail
    go_ret
    exact ⟨rfl, HT.out.drewN n, ((Keeps.refl _ _).setCell (p := ⟨X, 2, none⟩) (fun h => h rfl) _).drewN n⟩

theorem rdReplace_any {w : World} {X : Nat} {d : Dk} (h : Rat w X d) (s : ByteArray) :
    Calls Try.prog 39 #[.pointer (some ⟨X, 0, none⟩), .string s] w (RGives (.int .i64 (if d.size < s.size then 9 else 0)) X (d.replace s) w) := by
  have c0 := h.1.c0
  have hG := h.2.replace s
  unfold Dk.replace at hG ⊢
  by_cases hs : d.size < s.size
  · rw [if_pos hs, if_pos hs]
    have H := Lib.hid h
    clear h hG
    go_enter Try.func39, Try.ntmps39
    go_wp2_with fail
    go_ret
    exact ⟨rfl, H.out, Keeps.refl _ _⟩
  · rw [if_neg hs, if_neg hs]
    rw [if_neg hs] at hG
    have c2 := h.1.c2; have f2 := h.1.f2; have c3 := h.1.c3; have f3 := h.1.f3
    have hT : Rat ((w.setCell ⟨X, 2, none⟩ (.string s)).setCell ⟨X, 3, none⟩ (.bool true)) X (d.swap s) := by
      refine ⟨?_, hG⟩
      have := (h.1.s2 (.string s)).s3 (.bool true)
      have e : (⟨(d.swap s).waits.toArray⟩ : ByteArray) = s := by cases s; rfl
      rw [e]
      exact this
    have HT := Lib.hid hT
    clear h hT hG
    go_enter Try.func39, Try.ntmps39
    go_wp2_with fail
    go_ret
    exact ⟨rfl, HT.out, ((Keeps.refl _ _).setCell (p := ⟨X, 2, none⟩) (fun h => h rfl) _).setCell (p := ⟨X, 3, none⟩) (fun h => h rfl) _⟩

set_option maxHeartbeats 1000000 in
theorem rdCrash_plain {w : World} {X : Nat} {p1 p2 : ByteArray} {z : Int} (k : Int) (K : Nat) (hk : max 0 (min k (p2.size : Int)) = (K : Int)) (hK : K ≤ p2.size)
    (h : Four w X (.int .i64 z) (.string p1) (.string p2) (.bool false)) (b1 : p1.size ≤ 1048576) (b2 : p2.size ≤ 1048576) :
    Calls Try.prog 37 #[.pointer (some ⟨X, 0, none⟩), .int .i64 k] w fun e w' => e = .returned (.tuple #[]) ∧ Four w' X (.int .i64 z) (.string (p1 ++ p2.extract 0 K)) (.string ⟨#[]⟩) (.bool false) ∧ Keeps (fun j => ¬ j = X) w w' := by
  have c1 := h.c1; have c2 := h.c2; have c3 := h.c3; have f1 := h.f1; have f2 := h.f2; have f3 := h.f3
  have hsl : ∀ w, (Instr.slice 9 (.string p2) none (some (.int .i64 (K : Int))) none).run Try.prog w = .ok (.string (p2.extract 0 K)) w := fun w => by
    rw [run_slice_string_to_if w 9 _ .i64 _ Try.underlying9, if_pos ⟨by omega, by omega⟩]
    rfl
  have hz : (p2.extract 0 K).size = K := by rw [ByteArray.size_extract]; omega
  have hT := And.intro (Four.drewN (((h.s1 (.string (p1 ++ p2.extract 0 K))).s2 (.string ⟨#[]⟩)).s3 (.bool false)) 1) ((((((Keeps.refl (fun j => ¬ j = X) w).setCell (p := ⟨X, 1, none⟩) (fun h => h rfl) (.string (p1 ++ p2.extract 0 K))).setCell (p := ⟨X, 2, none⟩) (fun h => h rfl) (.string ⟨#[]⟩)).setCell (p := ⟨X, 3, none⟩) (fun h => h rfl) (.bool false))).drewN 1)
  have HT := Lib.hid hT
  clear hT
  clear h
  go_enter Try.func37, Try.ntmps37
  go_wp2_with fail
  go_region
  all_goals go_wp2_with fail
  all_goals go_end0
  all_goals exact ⟨rfl, HT.out⟩

set_option maxHeartbeats 1000000 in
theorem rdCrash_whole {w : World} {X : Nat} {p1 p2 : ByteArray} {z : Int} (k : Int) (K : Nat) (hk : max 0 (min k (p2.size : Int)) = (K : Int)) (hK : K ≤ p2.size) (hw : K = p2.size)
    (h : Four w X (.int .i64 z) (.string p1) (.string p2) (.bool true)) (b1 : p1.size ≤ 1048576) (b2 : p2.size ≤ 1048576) :
    Calls Try.prog 37 #[.pointer (some ⟨X, 0, none⟩), .int .i64 k] w fun e w' => e = .returned (.tuple #[]) ∧ Four w' X (.int .i64 z) (.string (p2)) (.string ⟨#[]⟩) (.bool false) ∧ Keeps (fun j => ¬ j = X) w w' := by
  have c1 := h.c1; have c2 := h.c2; have c3 := h.c3; have f1 := h.f1; have f2 := h.f2; have f3 := h.f3
  have hT := And.intro (((h.s1 (.string p2)).s2 (.string ⟨#[]⟩)).s3 (.bool false)) (((((Keeps.refl (fun j => ¬ j = X) w).setCell (p := ⟨X, 1, none⟩) (fun h => h rfl) (.string p2)).setCell (p := ⟨X, 2, none⟩) (fun h => h rfl) (.string ⟨#[]⟩)).setCell (p := ⟨X, 3, none⟩) (fun h => h rfl) (.bool false)))
  have HT := Lib.hid hT
  clear hT
  have hwi : ((K : Int) == (p2.size : Int)) = true := by simp; omega
  clear h
  go_enter Try.func37, Try.ntmps37
  go_wp2_with fail
  all_goals go_end0
  all_goals exact ⟨rfl, HT.out⟩

set_option maxHeartbeats 1000000 in
theorem rdCrash_gone {w : World} {X : Nat} {p1 p2 : ByteArray} {z : Int} (k : Int) (K : Nat) (hk : max 0 (min k (p2.size : Int)) = (K : Int)) (hK : K ≤ p2.size) (hw : K < p2.size)
    (h : Four w X (.int .i64 z) (.string p1) (.string p2) (.bool true)) (b1 : p1.size ≤ 1048576) (b2 : p2.size ≤ 1048576) :
    Calls Try.prog 37 #[.pointer (some ⟨X, 0, none⟩), .int .i64 k] w fun e w' => e = .returned (.tuple #[]) ∧ Four w' X (.int .i64 z) (.string (p1)) (.string ⟨#[]⟩) (.bool false) ∧ Keeps (fun j => ¬ j = X) w w' := by
  have c1 := h.c1; have c2 := h.c2; have c3 := h.c3; have f1 := h.f1; have f2 := h.f2; have f3 := h.f3
  have hT := And.intro ((h.s2 (.string ⟨#[]⟩)).s3 (.bool false)) ((((Keeps.refl (fun j => ¬ j = X) w).setCell (p := ⟨X, 2, none⟩) (fun h => h rfl) (.string ⟨#[]⟩)).setCell (p := ⟨X, 3, none⟩) (fun h => h rfl) (.bool false)))
  have HT := Lib.hid hT
  clear hT
  have hwi : ((K : Int) == (p2.size : Int)) = false := by simp; omega
  clear h
  go_enter Try.func37, Try.ntmps37
  go_wp2_with fail
  all_goals go_end0
  all_goals exact ⟨rfl, HT.out⟩

theorem rdCrash_any {w : World} {X : Nat} {d : Dk} (h : Rat w X d) (k : Int) :
    Calls Try.prog 37 #[.pointer (some ⟨X, 0, none⟩), .int .i64 k] w (RGives (.tuple #[]) X (d.crash k) w) := by
  have hG := h.2.crash k
  have hz := h.2.sz; have hs := h.2.sLe; have ha := h.2.aLe
  have hwl := Dk.waits_len (d := d)
  have hwa := Dk.waiting_le (d := d)
  have z1 := arr_size d.S
  have z2 := arr_size d.waits
  have hk : max 0 (min k ((⟨d.waits.toArray⟩ : ByteArray).size : Int)) = ((d.keep k : Nat) : Int) := by rw [z2]; unfold Dk.keep; omega
  have hkl := Dk.keep_le d k
  have F := h.1
  rcases hr : d.repl with _ | _
  · rw [hr] at F
    refine (rdCrash_plain k (d.keep k) hk (by omega) F (by omega) (by omega)).mono fun e w' ⟨he, hF, hK⟩ => ⟨he, ⟨?_, hG⟩, hK⟩
    have e1 : (⟨d.S.toArray⟩ : ByteArray) ++ (⟨d.waits.toArray⟩ : ByteArray).extract 0 (d.keep k) = ⟨(d.crash k).S.toArray⟩ := by
      rw [Dk.crash_plain h.2 hr k]
      apply ByteArray.ext
      apply Array.ext'
      simp [ByteArray.data_append, ByteArray.data_extract]
    rw [Dk.crash_size, Dk.crash_waits, Dk.crash_repl, ← e1]
    exact hF
  · rw [hr] at F
    by_cases hw : d.keep k = d.waits.length
    · refine (rdCrash_whole k (d.keep k) hk (by omega) (by omega) F (by omega) (by omega)).mono fun e w' ⟨he, hF, hK⟩ => ⟨he, ⟨?_, hG⟩, hK⟩
      rw [Dk.crash_size, Dk.crash_waits, Dk.crash_repl, Dk.crash_whole hr k hw]
      exact hF
    · refine (rdCrash_gone k (d.keep k) hk (by omega) (by omega) F (by omega) (by omega)).mono fun e w' ⟨he, hF, hK⟩ => ⟨he, ⟨?_, hG⟩, hK⟩
      rw [Dk.crash_size, Dk.crash_waits, Dk.crash_repl, Dk.crash_gone hr k hw]
      exact hF

theorem rdSync_any {w : World} {X : Nat} {d : Dk} (h : Rat w X d) :
    Calls Try.prog 18 #[.pointer (some ⟨X, 0, none⟩)] w (RGives (.tuple #[]) X d.sync w) := by
  have c2 := h.1.c2
  have z2 := arr_size d.waits
  have hc := rdCrash_any h ((⟨d.waits.toArray⟩ : ByteArray).size : Int)
  rw [z2, Dk.crash_sync h.2] at hc
  obtain ⟨p2, hp2⟩ : ∃ p2, (⟨d.waits.toArray⟩ : ByteArray) = p2 := ⟨_, rfl⟩
  rw [hp2] at c2 z2
  rw [← z2] at hc
  have HC := Lib.hid hc
  clear h hc hp2 z2
  go_enter Try.func18, Try.ntmps18
  go_wp2_with fail
  refine HC.out.mono ?_
  rintro e w1 ⟨rfl, g⟩
  have G := Lib.hid g; clear g
  go_wp2_with fail
  go_end0
  exact ⟨rfl, G.out⟩

theorem rdNew_any (n : Int) (w : World) :
    Calls Try.prog 14 #[.int .i64 n] w fun e w' => e = .returned (.pointer (some ⟨w.heap.size, 0, none⟩)) ∧ Rat w' w.heap.size (Dk.new n) ∧ Below w.heap.size w w' := by
  have hk : max 0 (min n 1048576) = ((min n.toNat 1048576 : Nat) : Int) := by omega
  go_enter Try.func14, Try.ntmps14
  go_wp2_with fail
  go_ret
  refine ⟨rfl, ⟨⟨?_, ?_, ?_, ?_, ?_, ?_, ?_⟩, Dk.Good.new n⟩, (Below.refl _ _).alloc (Nat.le_refl _) _⟩
  · exact World.cell?_alloc_at (w := w) _ _ _ 0 rfl
  · exact World.cell?_alloc_at (w := w) _ _ _ 1 rfl
  · exact World.cell?_alloc_at (w := w) _ _ _ 2 rfl
  · exact World.cell?_alloc_at (w := w) _ _ _ 3 rfl
  · exact World.frozen?_alloc_at (w := w) _ _ _ 1 rfl
  · exact World.frozen?_alloc_at (w := w) _ _ _ 2 rfl
  · exact World.frozen?_alloc_at (w := w) _ _ _ 3 rfl

end Go.Proofs.Ytcjpednhefeboaa
