/- Records: what bytes hold, plainly. -/
import Derived.Test.YtcjpednhefeboaaCrcG
import Derived.Test.YtcjpednhefeboaaDsk
namespace Go.Proofs.Ytcjpednhefeboaa
open Go.RowKit
set_option linter.unusedVariables false

theorem Cr.read_range (s : ByteArray) (h : (Cr.read s).2.2 = 0) : ∃ n : Nat, (Cr.read s).2.1 = (n : Int) ∧ 8 ≤ n ∧ n ≤ s.size ∧ (Cr.read s).1.size ≤ 16384 ∧ n = (Cr.read s).1.size + 8 := by
  unfold Cr.read at h ⊢
  split at h
  · simp at h
  · split at h
    · simp at h
    · split at h
      · simp at h
      · split at h
        · rename_i h1 h2 h3 h4
          rw [if_neg h1, if_neg h2, if_neg h3, if_pos h4]
          have hz := Cr.text_size s (by omega)
          refine ⟨8 + Cr.back s, by simp, by omega, by omega, ?_, ?_⟩
          · simp only [hz]; omega
          · simp only [hz]; omega
        · simp at h

namespace Jn
/-- The records of some bytes, and how many bytes they have. -/
def scan (s : ByteArray) : List ByteArray × Nat :=
  if h : (Cr.read s).2.2 = 0 ∧ 0 < (Cr.read s).2.1.toNat ∧ (Cr.read s).2.1.toNat ≤ s.size then
    ((Cr.read s).1 :: (scan (s.extract (Cr.read s).2.1.toNat s.size)).1, (Cr.read s).2.1.toNat + (scan (s.extract (Cr.read s).2.1.toNat s.size)).2)
  else ([], 0)
termination_by s.size
decreasing_by all_goals (rw [ByteArray.size_extract]; omega)

theorem scan_stop {s : ByteArray} (h : (Cr.read s).2.2 ≠ 0) : scan s = ([], 0) := by
  rw [scan, dif_neg (fun q => h q.1)]
theorem scan_go {s t : ByteArray} {n : Nat} (h : Cr.read s = (t, (n : Int), 0)) : scan s = (t :: (scan (s.extract n s.size)).1, n + (scan (s.extract n s.size)).2) := by
  obtain ⟨m, hm, h8, hs, _⟩ := Cr.read_range s (by rw [h])
  have e : (Cr.read s).2.1.toNat = n := by rw [h]; simp
  have em : m = n := by rw [h] at hm; simp at hm; omega
  rw [scan, dif_pos ⟨by rw [h], by omega, by omega⟩, e, h]

theorem cut_cut (s : ByteArray) (a b : Nat) (h : a + b ≤ s.size) : (s.extract a s.size).extract b (s.extract a s.size).size = s.extract (a + b) s.size := by
  apply ba_ext
  rw [ba_from, ba_from, ba_from, List.drop_drop]
theorem cut_none (s : ByteArray) : s.extract 0 s.size = s := by
  apply ba_ext
  rw [ba_from, List.drop_zero]

/-- The first n bytes of s are the records ts. -/
structure Part (s : ByteArray) (ts : List ByteArray) (n : Nat) : Prop where
  le : n ≤ s.size
  few : ts.length * 8 ≤ n
  texts : (scan s).1 = ts ++ (scan (s.extract n s.size)).1
  bytes : (scan s).2 = n + (scan (s.extract n s.size)).2
  small : ∀ t ∈ ts, t.size ≤ 16384
theorem Part.start (s : ByteArray) : Part s [] 0 := ⟨Nat.zero_le _, by simp, by rw [cut_none]; rfl, by rw [cut_none]; omega, fun t h => by cases h⟩
theorem Part.next {s t : ByteArray} {ts : List ByteArray} {n m : Nat} (h : Part s ts n) (hr : Cr.read (s.extract n s.size) = (t, (m : Int), 0)) : Part s (ts ++ [t]) (n + m) := by
  obtain ⟨m', hm, h8, hs, ht, _⟩ := Cr.read_range _ (by rw [hr])
  rw [hr] at hm ht
  have em : m' = m := by simp at hm; omega
  subst em
  have hz : (s.extract n s.size).size = s.size - n := by rw [ByteArray.size_extract]; omega
  have hl := h.le
  have hf := h.few
  have hg := scan_go hr
  rw [cut_cut s n m' (by omega)] at hg
  refine ⟨by omega, ?_, ?_, ?_, fun x hx => ?_⟩
  · rw [List.length_append]; simp only [List.length_cons, List.length_nil]; omega
  · rw [h.texts, hg, List.append_assoc]; rfl
  · rw [h.bytes, hg]; simp only; omega
  · rcases List.mem_append.1 hx with q | q
    · exact h.small x q
    · simp only [List.mem_singleton] at q; subst q; exact ht
theorem Part.done {s : ByteArray} {ts : List ByteArray} {n : Nat} (h : Part s ts n) (hr : (Cr.read (s.extract n s.size)).2.2 ≠ 0) : scan s = (ts, n) := by
  have h1 := h.texts; have h2 := h.bytes
  rw [scan_stop hr] at h1 h2
  rw [List.append_nil] at h1
  exact Prod.ext h1 h2
theorem Part.small_scan {s : ByteArray} {ts : List ByteArray} {n : Nat} (h : Part s ts n) : n ≤ s.size ∧ ts.length ≤ s.size := ⟨h.le, by have := h.few; have := h.le; omega⟩
theorem read_none (s : ByteArray) (n : Nat) (h : s.size ≤ n) : (Cr.read (s.extract n s.size)).2.2 ≠ 0 := by
  have hz : (s.extract n s.size).size = 0 := by rw [ByteArray.size_extract]; omega
  unfold Cr.read
  rw [if_pos (by omega)]
  decide

/-- The frames of some records, one behind the other. -/
def frames : List ByteArray → ByteArray
  | [] => ⟨#[]⟩
  | t :: r => Cr.frame t ++ frames r
theorem none_app (s : ByteArray) : (⟨#[]⟩ : ByteArray) ++ s = s := by apply ba_ext; rw [ba_app]; rfl
theorem app_none (s : ByteArray) : s ++ (⟨#[]⟩ : ByteArray) = s := by apply ba_ext; rw [ba_app]; simp
theorem app_assoc (a b c : ByteArray) : a ++ b ++ c = a ++ (b ++ c) := by apply ba_ext; rw [ba_app, ba_app, ba_app, ba_app, List.append_assoc]
theorem frames_app (a b : List ByteArray) : frames (a ++ b) = frames a ++ frames b := by
  induction a with
  | nil => rw [List.nil_append]; show _ = (⟨#[]⟩ : ByteArray) ++ _; rw [none_app]
  | cons t r ih => rw [List.cons_append]; simp only [frames]; rw [ih, app_assoc]
theorem frames_snoc (a : List ByteArray) (t : ByteArray) : frames (a ++ [t]) = frames a ++ Cr.frame t := by
  rw [frames_app]; simp only [frames]; rw [app_none]
theorem frames_size : ∀ (a : List ByteArray), (frames a).size = (a.map (fun t => t.size + 8)).sum
  | [] => rfl
  | t :: r => by simp only [frames, List.map_cons, List.sum_cons]; rw [ByteArray.size_append, Cr.frame_size, frames_size r]
theorem cut_app (a b : ByteArray) : (a ++ b).extract a.size (a ++ b).size = b := by
  apply ba_ext
  rw [ba_from, ba_app, ← ba_len, List.drop_left]
theorem scan_frames (u : ByteArray) : ∀ (ts : List ByteArray), (∀ t ∈ ts, t.size ≤ 16384) → scan (frames ts ++ u) = (ts ++ (scan u).1, (frames ts).size + (scan u).2)
  | [], _ => by simp only [frames]; rw [none_app]; simp [ByteArray.size]
  | t :: r, h => by
    have hr := read_frame t (frames r ++ u) (h t (by simp))
    have ih := scan_frames u r (fun x hx => h x (by simp [hx]))
    simp only [frames]
    rw [app_assoc]
    have e : (8 : Int) + (t.size : Int) = (((Cr.frame t).size : Nat) : Int) := by rw [Cr.frame_size]; omega
    rw [e] at hr
    rw [scan_go hr, cut_app, ih, ByteArray.size_append]
    simp only [List.cons_append, Prod.mk.injEq, true_and]
    omega
theorem scan_all (ts : List ByteArray) (h : ∀ t ∈ ts, t.size ≤ 16384) : scan (frames ts) = (ts, (frames ts).size) := by
  have := scan_frames ⟨#[]⟩ ts h
  have e : scan ⟨#[]⟩ = ([], 0) := scan_stop (by decide +kernel)
  rw [app_none, e] at this
  simpa using this
/-- A frame that is not all there is none. -/
theorem scan_torn (ts : List ByteArray) (h : ∀ t ∈ ts, t.size ≤ 16384) (s u : ByteArray) (k : Nat) (hs : s.size ≤ 16384) (hk : k < s.size + 8) (hu : u.data.toList = (Cr.frameL s.data.toList).take k) : scan (frames ts ++ u) = (ts, (frames ts).size) := by
  have e : scan u = ([], 0) := scan_stop (by rw [read_short s u k hs hk hu]; decide)
  have := scan_frames u ts h
  rw [e] at this
  simpa using this
end Jn

end Go.Proofs.Ytcjpednhefeboaa
