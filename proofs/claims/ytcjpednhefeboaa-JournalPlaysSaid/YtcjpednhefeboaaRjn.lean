/- The plain answer's journal. -/
import Derived.Test.YtcjpednhefeboaaJrnA
import Derived.Test.YtcjpednhefeboaaRdk
import Derived.Deep.RegionHeld3
namespace Go.Proofs.Ytcjpednhefeboaa
open Go.RowKit
set_option linter.unusedVariables false

namespace Jn
def text (d : Dk) : ByteArray := ⟨d.S.toArray⟩
/-- What Open makes of a disk. -/
def opened (d : Dk) : Dk := if (scan (text d)).2 < (text d).size then (d.swap ((text d).extract 0 (scan (text d)).2)).sync else d
theorem scan_le (s : ByteArray) : (scan s).2 ≤ s.size ∧ (scan s).1.length * 8 ≤ (scan s).2 ∧ ∀ t ∈ (scan s).1, t.size ≤ 16384 := by
  suffices h : ∀ (m : Nat) (ts : List ByteArray) (n : Nat), Part s ts n → s.size - n ≤ m → (scan s).2 ≤ s.size ∧ (scan s).1.length * 8 ≤ (scan s).2 ∧ ∀ t ∈ (scan s).1, t.size ≤ 16384 from h s.size [] 0 (Part.start s) (by omega)
  intro m
  induction m with
  | zero =>
    intro ts n hp hm
    have hd := hp.done (read_none s n (by omega))
    rw [hd]
    exact ⟨hp.le, hp.few, hp.small⟩
  | succ m ih =>
    intro ts n hp hm
    by_cases he : (Cr.read (s.extract n s.size)).2.2 = 0
    · obtain ⟨k, hk, h8, hs, _⟩ := Cr.read_range _ he
      have hr : Cr.read (s.extract n s.size) = ((Cr.read (s.extract n s.size)).1, (k : Int), 0) := by rw [← hk, ← he]
      have hz : (s.extract n s.size).size = s.size - n := by rw [ByteArray.size_extract]; omega
      exact ih _ _ (hp.next hr) (by omega)
    · have hd := hp.done he
      rw [hd]
      exact ⟨hp.le, hp.few, hp.small⟩
theorem opened_good {d : Dk} (h : d.Good) : (opened d).Good := by
  unfold opened
  split
  · have hr := h.replace ((text d).extract 0 (scan (text d)).2)
    have hz : ¬ d.size < ((text d).extract 0 (scan (text d)).2).size := by
      have := h.sLe
      have h2 : (text d).size = d.S.length := arr_size d.S
      rw [ByteArray.size_extract]; omega
    unfold Dk.replace at hr
    rw [if_neg hz] at hr
    exact hr.sync
  · exact h
/-- What Append makes: the answer, the disk, how many. -/
def app (d : Dk) (N : Nat) (s : ByteArray) : Int × Dk × Nat := if 16384 < s.size then (8, d, N) else if d.free < (Cr.frame s).size then (9, d, N) else (0, (d.put (Cr.frame s)).sync, N + 1)
end Jn

theorem text_to (s : ByteArray) (n : Nat) (h : n ≤ s.size) (w : World) : (Instr.slice 9 (.string s) none (some (.int .i64 (n : Int))) none).run Try.prog w = .ok (.string (s.extract 0 n)) w := by
  rw [run_slice_string_to_if w 9 _ .i64 _ Try.underlying9, if_pos ⟨by omega, by omega⟩]
  rfl

/-- The plain answer's journal in memory. -/
structure Rja (w : World) (J X : Nat) (d : Dk) (N : Nat) : Prop where
  c0 : w.cell? ⟨J, 0, none⟩ = some (.pointer (some ⟨X, 0, none⟩))
  c1 : w.cell? ⟨J, 1, none⟩ = some (.int .i64 (N : Int))
  f1 : w.frozen? ⟨J, 1, none⟩ = false
  ne : J ≠ X
  disk : Rat w X d
theorem Rja.lt {w : World} {J X N : Nat} {d : Dk} (h : Rja w J X d N) : J < w.heap.size := World.block_lt_of_cell? w _ h.c0
theorem Rja.block {w w' : World} {J X N : Nat} {d : Dk} (h : Rja w J X d N) (e : w'.heap[J]? = w.heap[J]?) (e' : w'.heap[X]? = w.heap[X]?) : Rja w' J X d N :=
  ⟨(World.cell?_of_block (w := w) e).trans h.c0, (World.cell?_of_block (w := w) e).trans h.c1, (World.frozen?_of_block (w := w) e).trans h.f1, h.ne, h.disk.block e'⟩
theorem Rja.turn {w w' : World} {J X N : Nat} {d d' : Dk} (h : Rja w J X d N) (r : Rat w' X d') (k : Keeps (fun j => ¬ j = X) w w') : Rja w' J X d' N :=
  ⟨(World.cell?_of_block (w := w) (k.block J h.ne)).trans h.c0, (World.cell?_of_block (w := w) (k.block J h.ne)).trans h.c1, (World.frozen?_of_block (w := w) (k.block J h.ne)).trans h.f1, h.ne, r⟩
theorem Rja.count {w : World} {J X N : Nat} {d : Dk} (h : Rja w J X d N) (M : Nat) : Rja (w.setCell ⟨J, 1, none⟩ (.int .i64 (M : Int))) J X d M :=
  ⟨(World.cell?_setCell_other _ _ _ _ (by simp)).trans h.c0, World.cell?_setCell_same _ _ _ h.c1, by simpa using h.f1, h.ne, h.disk.block (Below.heap_setCell _ _ _ _ (Ne.symm h.ne))⟩
theorem Rja.drewN {w : World} {J X N : Nat} {d : Dk} (h : Rja w J X d N) (n : Nat) : Rja (w.drewN n) J X d N := ⟨h.c0, h.c1, h.f1, h.ne, h.disk.drewN n⟩

/-- What Open leaves: a new journal on the disk; the records, in a row of their own; of what was there X's block alone has turned. -/
def ROpens (w : World) (X : Nat) (d : Dk) (e : Ending) (w' : World) : Prop := ∃ J ao cap, e = .returned (.tuple #[.pointer (some ⟨J, 0, none⟩), .slice ao (Jn.scan (Jn.text d)).1.length cap]) ∧ Rja w' J X (Jn.opened d) (Jn.scan (Jn.text d)).1.length ∧ Texts w' ao cap (Jn.scan (Jn.text d)).1 ∧
  w.heap.size ≤ J ∧ (∀ g, ao = some ⟨g, 0, none⟩ → w.heap.size ≤ g ∧ g ≠ J) ∧ Keeps (fun k => k < w.heap.size ∧ ¬ k = X) w w'

theorem opens_end {w w1 w3 : World} {X : Nat} {d' : Dk} {ts : List ByteArray} (hX : X < w.heap.size) (ao : Option Addr) (cap : Nat) (t1 : Texts w1 ao cap ts) (hg : ∀ g, ao = some ⟨g, 0, none⟩ → w.heap.size ≤ g) (g1 : Below w.heap.size w w1) (k : Keeps (fun j => ¬ j = X) w1 w3) (r : Rat w3 X d') :
    ∃ J ao' cap', Ending.returned (.tuple #[.pointer (some ⟨w3.heap.size, 0, none⟩), .slice ao ts.length cap]) = .returned (.tuple #[.pointer (some ⟨J, 0, none⟩), .slice ao' ts.length cap']) ∧ Rja (w3.alloc (.cells #[.pointer (some ⟨X, 0, none⟩), .int .i64 (ts.length : Int)] 47)) J X d' ts.length ∧ Texts (w3.alloc (.cells #[.pointer (some ⟨X, 0, none⟩), .int .i64 (ts.length : Int)] 47)) ao' cap' ts ∧
      w.heap.size ≤ J ∧ (∀ g, ao' = some ⟨g, 0, none⟩ → w.heap.size ≤ g ∧ g ≠ J) ∧ Keeps (fun k => k < w.heap.size ∧ ¬ k = X) w (w3.alloc (.cells #[.pointer (some ⟨X, 0, none⟩), .int .i64 (ts.length : Int)] 47)) := by
  have hz : w.heap.size ≤ w3.heap.size := Nat.le_trans g1.size k.size
  have hlt : ∀ g, ao = some ⟨g, 0, none⟩ → g < w1.heap.size := by
    intro g e
    rcases t1 with ⟨rfl, _⟩ | ⟨g', rfl, h1, _⟩
    · cases e
    · injection e with e
      injection e with e _ _
      omega
  refine ⟨w3.heap.size, ao, cap, rfl, ⟨World.cell?_alloc_at (w := w3) _ _ _ 0 rfl, World.cell?_alloc_at (w := w3) _ _ _ 1 rfl, World.frozen?_alloc_at (w := w3) _ _ _ 1 rfl, ?_, r.block (Below.heap_alloc _ _ _ r.lt)⟩, ?_, hz, fun g e => ⟨hg g e, ?_⟩, ?_⟩
  · have := r.lt; omega
  · refine Texts.kept (w := w1) t1 (by have := k.size; simp; omega) fun g e hl => (Below.heap_alloc _ _ _ (Nat.lt_of_lt_of_le hl k.size)).trans (k.block g fun e' => ?_)
    have := hg g e
    omega
  · have := hlt g e
    have := k.size
    omega
  · exact ((Keeps.of_below g1 fun j hj => hj.1).trans (k.mono fun j hj => hj.2)).alloc (fun j hj => Nat.lt_of_lt_of_le hj.1 hz) _

set_option maxHeartbeats 1000000 in
theorem rjOpen_any {w : World} {X : Nat} {d : Dk} (h : Rat w X d) :
    Calls Try.prog 20 #[.pointer (some ⟨X, 0, none⟩)] w (ROpens w X d) := by
  have hsz : (Jn.text d).size ≤ 1048576 := by
    have h1 := h.2.sLe; have h2 := h.2.sz
    have h3 : (Jn.text d).size = d.S.length := arr_size d.S
    omega
  have hle := Jn.scan_le (Jn.text d)
  have c1 := h.1.c1
  change w.cell? _ = some (.string (Jn.text d)) at c1
  have hsc := rScan_any (Jn.text d) (by omega) w
  have hcut := fun w => text_to (Jn.text d) (Jn.scan (Jn.text d)).2 hle.1 w
  have hno : ¬ d.size < ((Jn.text d).extract 0 (Jn.scan (Jn.text d)).2).size := by
    have := h.2.sLe
    have h2 : (Jn.text d).size = d.S.length := arr_size d.S
    rw [ByteArray.size_extract]; omega
  unfold ROpens Jn.opened
  obtain ⟨p, hp⟩ : ∃ p, Jn.text d = p := ⟨_, rfl⟩
  rw [hp] at hsz hle c1 hsc hcut hno ⊢
  obtain ⟨q, hq⟩ : ∃ q, Jn.scan p = q := ⟨_, rfl⟩
  rw [hq] at hle hsc hcut hno ⊢
  obtain ⟨ts, m⟩ := q
  simp only at hle hsc hcut hno ⊢
  have hl : ts.length ≤ 1048576 := by omega
  have HS1 := h.lt
  have HS := Lib.hid hsc; have H := Lib.hid h; have HN := Lib.hid hno
  have HP : Hid ((⟨d.S.toArray⟩ : ByteArray) = p) := Lib.hid hp
  clear hsc h hno hp hq
  by_cases hlt : m < p.size
  · rw [if_pos hlt]
    go_enter Try.func20, Try.ntmps20
    go_wp2_with fail
    refine HS.out.mono ?_
    rintro e w1 ⟨ao, cap, rfl, t1, hg1, g1⟩
    have R1 : Rat w1 X d := H.out.block (g1.block X H.out.lt)
    have c1' := R1.1.c1
    rw [HP.out] at c1'
    have T1 := Lib.hid (And.intro t1 (And.intro hg1 g1)); have HR1 := Lib.hid R1
    clear t1 hg1 g1 R1
    have cr := rdReplace_any HR1.out (p.extract 0 m)
    have er : d.replace (p.extract 0 m) = d.swap (p.extract 0 m) := by unfold Dk.replace; rw [if_neg HN.out]
    rw [if_neg HN.out, er] at cr
    have CR := Lib.hid cr; clear cr er
    go_wp2_with fail
    refine CR.out.mono ?_
    rintro e w2 ⟨rfl, r2, k2⟩
    have cs := Lib.hid (rdSync_any r2)
    have K2 := Lib.hid k2
    clear r2 k2
    go_wp2_with fail
    refine cs.out.mono ?_
    rintro e w3 ⟨rfl, r3, k3⟩
    have R3 := Lib.hid (And.intro r3 k3)
    clear r3 k3 cs CR HR1
    go_wp2_with fail
    go_ret2
    exact opens_end HS1 ao cap T1.out.1 T1.out.2.1 T1.out.2.2 (K2.out.trans R3.out.2) R3.out.1
  · rw [if_neg hlt]
    go_enter Try.func20, Try.ntmps20
    go_wp2_with fail
    refine HS.out.mono ?_
    rintro e w1 ⟨ao, cap, rfl, t1, hg1, g1⟩
    have R1 : Rat w1 X d := H.out.block (g1.block X H.out.lt)
    have c1' := R1.1.c1
    rw [HP.out] at c1'
    have T1 := Lib.hid (And.intro t1 (And.intro hg1 g1)); have HR1 := Lib.hid R1
    clear t1 hg1 g1 R1
    go_wp2_with fail
    go_ret2
    exact opens_end HS1 ao cap T1.out.1 T1.out.2.1 T1.out.2.2 (Keeps.refl _ _) HR1.out

end Go.Proofs.Ytcjpednhefeboaa
