/- A disk: what it is, plainly; a row of bytes in memory; a disk in memory. -/
import Derived.Test.YtcjpednhefeboaaBelow
import Derived.Deep.AppendSrc
import Derived.Deep.MidRow
namespace Go.Proofs.Ytcjpednhefeboaa
open Go.RowKit
set_option linter.unusedVariables false

/-- A disk's state: its size, what is safe, all, whether all but waits. -/
structure Dk where
  size : Nat
  S : List UInt8
  A : List UInt8
  repl : Bool
deriving DecidableEq
namespace Dk
def new (n : Int) : Dk := ⟨min n.toNat 1048576, [], [], false⟩
def waiting (d : Dk) : Nat := if d.repl then d.A.length else d.A.length - d.S.length
def free (d : Dk) : Nat := d.size - d.A.length
def settle (d : Dk) (n : Nat) : Dk := ⟨d.size, d.A.take n, d.A.take n, false⟩
def lost (d : Dk) : Dk := ⟨d.size, d.S, d.S, false⟩
def put (d : Dk) (s : ByteArray) : Dk := ⟨d.size, d.S, d.A ++ s.data.toList, d.repl⟩
def swap (d : Dk) (s : ByteArray) : Dk := ⟨d.size, d.S, s.data.toList, true⟩
def write (d : Dk) (s : ByteArray) : Dk := if d.free < s.size then d else d.put s
def replace (d : Dk) (s : ByteArray) : Dk := if d.size < s.size then d else d.swap s
def keep (d : Dk) (k : Int) : Nat := min k.toNat d.waiting
def crash (d : Dk) (k : Int) : Dk := if d.repl = true ∧ d.keep k < d.waiting then d.lost else d.settle (d.A.length - d.waiting + d.keep k)
def sync (d : Dk) : Dk := d.settle d.A.length
/-- What always holds of a disk. -/
structure Good (d : Dk) : Prop where
  sz : d.size ≤ 1048576
  sLe : d.S.length ≤ d.size
  aLe : d.A.length ≤ d.size
  pre : d.repl = false → d.S <+: d.A
theorem Good.new (n : Int) : (Dk.new n).Good := ⟨by simp only [Dk.new]; omega, by simp [Dk.new], by simp [Dk.new], fun _ => by simp [Dk.new]⟩
theorem Good.settle {d : Dk} (h : d.Good) (n : Nat) : (d.settle n).Good := by
  have := h.aLe
  refine ⟨h.sz, ?_, ?_, fun _ => ?_⟩
  · simp only [Dk.settle, List.length_take]; omega
  · simp only [Dk.settle, List.length_take]; omega
  · exact List.prefix_refl _
theorem Good.lost {d : Dk} (h : d.Good) : d.lost.Good := ⟨h.sz, h.sLe, h.sLe, fun _ => List.prefix_refl _⟩
theorem len_data (s : ByteArray) : s.data.toList.length = s.size := by rw [Array.length_toList]; rfl
theorem Good.write {d : Dk} (h : d.Good) (s : ByteArray) : (d.write s).Good := by
  unfold Dk.write
  split
  · exact h
  · rename_i hf
    have h1 := h.aLe
    unfold Dk.free at hf
    refine ⟨h.sz, h.sLe, ?_, fun hr => ?_⟩
    · simp only [Dk.put, List.length_append, len_data]; omega
    · exact (h.pre hr).trans (List.prefix_append _ _)
theorem Good.replace {d : Dk} (h : d.Good) (s : ByteArray) : (d.replace s).Good := by
  unfold Dk.replace
  split
  · exact h
  · rename_i hf
    refine ⟨h.sz, h.sLe, ?_, fun hr => ?_⟩
    · simp only [Dk.swap, len_data]; omega
    · cases hr
theorem Good.crash {d : Dk} (h : d.Good) (k : Int) : (d.crash k).Good := by
  unfold Dk.crash
  split
  · exact h.lost
  · exact h.settle _
theorem Good.sync {d : Dk} (h : d.Good) : d.sync.Good := h.settle _
theorem keep_le (d : Dk) (k : Int) : d.keep k ≤ d.waiting := Nat.min_le_right _ _
theorem waiting_le {d : Dk} : d.waiting ≤ d.A.length := by unfold Dk.waiting; split <;> omega
end Dk

/-- The blocks of F are as they were; the streams are as they were; no block has gone. -/
structure Keeps (F : Nat → Prop) (w w' : World) : Prop where
  os : w'.os = w.os
  tape : w'.tape = w.tape
  output : w'.output = w.output
  size : w.heap.size ≤ w'.heap.size
  block : ∀ k, F k → w'.heap[k]? = w.heap[k]?

section
variable {F : Nat → Prop} {a w w' : World}
theorem Keeps.refl (F : Nat → Prop) (w : World) : Keeps F w w := ⟨rfl, rfl, rfl, Nat.le_refl _, fun _ _ => rfl⟩
theorem Keeps.trans {a b c : World} (h : Keeps F a b) (k : Keeps F b c) : Keeps F a c := ⟨k.os.trans h.os, k.tape.trans h.tape, k.output.trans h.output, Nat.le_trans h.size k.size, fun i hi => (k.block i hi).trans (h.block i hi)⟩
theorem Keeps.mono {G : Nat → Prop} (h : Keeps F w w') (hG : ∀ k, G k → F k) : Keeps G w w' := ⟨h.os, h.tape, h.output, h.size, fun k hk => h.block k (hG k hk)⟩
theorem Keeps.drewN (h : Keeps F a w) (n : Nat) : Keeps F a (w.drewN n) := ⟨h.os, h.tape, h.output, h.size, h.block⟩
theorem Keeps.alloc (h : Keeps F a w) (hF : ∀ k, F k → k < w.heap.size) (o : Obj) : Keeps F a (w.alloc o) := h.trans ⟨rfl, rfl, rfl, by simp, fun k hk => Below.heap_alloc _ _ _ (hF k hk)⟩
theorem Keeps.setCell (h : Keeps F a w) {p : Addr} (hp : ¬ F p.block) (u : Value) : Keeps F a (w.setCell p u) := h.trans ⟨rfl, rfl, rfl, by simp [World.setCell], fun k hk => Below.heap_setCell _ _ _ _ (fun e => hp (e ▸ hk))⟩
theorem Keeps.of_below {B : Nat} (h : Below B w w') (hF : ∀ k, F k → k < B) : Keeps F w w' := ⟨h.os, h.tape, h.output, h.size, fun k hk => h.block k (hF k hk)⟩
theorem Keeps.below {B : Nat} (h : Keeps F w w') (hF : ∀ k, k < B → F k) : Below B w w' := ⟨h.os, h.tape, h.output, h.size, fun k hk => h.block k (hF k hk)⟩
end

/-- A row of bytes: none, or at a block's head. -/
def Row (w : World) (F : Nat → Prop) (ao : Option Addr) (cap : Nat) (l : List UInt8) : Prop :=
  (ao = none ∧ cap = 0 ∧ l = []) ∨ ∃ b, ao = some ⟨b, 0, none⟩ ∧ ¬ F b ∧ b < w.heap.size ∧ l.length ≤ cap ∧ (∀ j (h : j < l.length), w.cell? ⟨b, j, none⟩ = some (.int .u8 (l[j].toNat : Int))) ∧
    (∀ j, j < cap → (w.cell? ⟨b, j, none⟩).isSome = true) ∧ (∀ j, j < cap → w.frozen? ⟨b, j, none⟩ = false)

section
variable {w w' : World} {F : Nat → Prop} {cap : Nat} {ao : Option Addr} {l : List UInt8}
theorem Row.le (h : Row w F ao cap l) : l.length ≤ cap := by
  rcases h with ⟨rfl, rfl, rfl⟩ | ⟨b, rfl, h1, h2, h3, h4, h5, h6⟩
  · exact Nat.le_refl _
  · exact h3
theorem Row.cut (h : Row w F ao cap l) {n : Nat} (hn : n ≤ l.length) : Row w F ao n (l.take n) := by
  rcases h with ⟨rfl, rfl, rfl⟩ | ⟨b, rfl, h1, h2, h3, h4, h5, h6⟩
  · have : n = 0 := by simpa using hn
    subst this
    exact .inl ⟨rfl, rfl, rfl⟩
  · refine .inr ⟨b, rfl, h1, h2, by rw [List.length_take]; omega, fun j hj => ?_, fun j hj => h5 j (by omega), fun j hj => h6 j (by omega)⟩
    rw [h4 j (by rw [List.length_take] at hj; omega), List.getElem_take]
/-- Nothing of the row's block has turned. -/
theorem Row.kept (h : Row w F ao cap l) (hz : w.heap.size ≤ w'.heap.size) (hb : ∀ b, ao = some ⟨b, 0, none⟩ → b < w.heap.size → w'.heap[b]? = w.heap[b]?) : Row w' F ao cap l := by
  rcases h with h | ⟨b, rfl, h1, h2, h3, h4, h5, h6⟩
  · exact .inl h
  · have e := hb b rfl h2
    have ec : ∀ j, w'.cell? ⟨b, j, none⟩ = w.cell? ⟨b, j, none⟩ := fun j => World.cell?_of_block (w := w) e
    have ef : ∀ j, w'.frozen? ⟨b, j, none⟩ = w.frozen? ⟨b, j, none⟩ := fun j => World.frozen?_of_block (w := w) e
    exact .inr ⟨b, rfl, h1, by omega, h3, fun j hj => (ec j).trans (h4 j hj), fun j hj => by rw [ec]; exact h5 j hj, fun j hj => (ef j).trans (h6 j hj)⟩
theorem Row.store (h : Row w F ao cap l) {D o : Nat} {v : Value} (hD : ∀ b, ao = some ⟨b, 0, none⟩ → b ≠ D) : Row (w.setCell ⟨D, o, none⟩ v) F ao cap l :=
  h.kept (by simp [World.setCell]) fun b hb _ => Below.heap_setCell _ _ _ _ (hD b hb)
theorem Row.drew (h : Row w F ao cap l) : Row w.drew F ao cap l := h
theorem Row.none_ (w : World) (F : Nat → Prop) : Row w F none 0 [] := .inl ⟨rfl, rfl, rfl⟩
end

theorem row_text {w : World} {F : Nat → Prop} {cap : Nat} {ao : Option Addr} {l : List UInt8} (h : Row w F ao cap l) : (convert 59 9 (.slice ao l.length cap)).run Try.prog w = .ok (.string ⟨l.toArray⟩) w := by
  rcases h with ⟨rfl, rfl, rfl⟩ | ⟨b, rfl, h1, h2, h3, h4, h5, h6⟩
  · rw [run_convert_bytes_string w 59 9 5 none _ _ Try.underlying59 Try.underlying5 Try.underlying9]
    rfl
  · exact run_convert_bytes_back (P := Try.prog) w 59 9 5 ⟨b, 0, none⟩ cap l Try.underlying59 Try.underlying5 Try.underlying9 (fun j hj => by
      have e : (⟨b, 0, none⟩ : Addr).add j = ⟨b, j, none⟩ := by simp [Addr.add]; omega
      rw [e]; exact h4 j hj)

theorem byte_info : (Try.prog.info? 5).map (fun i => (i.zero, i.size, i.bytes)) = some (some (.int .u8 0), 1, 1) := by kernel_rfl

theorem byte_size (w : World) : (Go.sizeOf 5).run Try.prog w = .ok 1 w := by
  obtain ⟨i, hi, hz0, hz1, hz2⟩ := info_parts byte_info
  simp [sizeOf, typeInfo, hi, hz1]

theorem bound_at (n y : Nat) (code : BoundsCode) (w : World) (h : n ≤ y) : (Instr.sliceBound (.int .i64 (n : Int)) y code).run Try.prog w = .ok n w := by
  have := run_sliceBound (P := Try.prog) w .i64 (n : Int) y code (by omega) (by omega)
  simpa using this

theorem row_cut {w : World} {F : Nat → Prop} {cap : Nat} {ao : Option Addr} {l : List UInt8} (h : Row w F ao cap l) (n : Nat) (hn : n ≤ l.length) (w0 : World) : (Instr.slice 59 (.slice ao l.length cap) none (some (.int .i64 (n : Int))) (some (.int .i64 (n : Int)))).run Try.prog w0 = .ok (.slice ao n n) w0 := by
  have hc := Nat.le_trans hn h.le
  have e : (if n = 0 then ao else ao.map (·.add (0 * 1))) = ao := by
    rcases h with ⟨rfl, _⟩ | ⟨b, rfl, _⟩ <;> simp [Addr.add]
  simp only [Instr.slice, Instr.sliceBounds, Sem.run_bind, run_underlying Try.underlying59, Result.andThen_ok, bound_at n cap _ _ hc, bound_at n n _ _ (Nat.le_refl n), Sem.run_pure, byte_size, Nat.sub_zero, e]

end Go.Proofs.Ytcjpednhefeboaa
