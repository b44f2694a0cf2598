/- How great the numbers are. -/
import Derived.Test.YtkakgjmajplgmaaCmdI
namespace Go.Proofs.Ytkakgjmajplgmaa
open Go.RowKit
set_option linter.unusedVariables false

/-- Numbers that an int has. -/
def In64 (x : Int) : Prop := -9223372036854775808 ≤ x ∧ x < 9223372036854775808
def V3.wide (v : V3) : Prop := In64 v.x ∧ In64 v.y ∧ In64 v.z
def Nd.wide (n : Nd) : Prop := In64 n.par ∧ In64 n.wt ∧ n.nom.wide ∧ n.bor.wide ∧ n.lend.wide
def Hs.wide (h : Hs) : Prop := In64 h.fl ∧ In64 h.bl ∧ In64 h.ra ∧ h.cap.wide
def Gg.wide (g : Gg) : Prop := In64 g.id ∧ In64 g.ten ∧ In64 g.pods ∧ g.need.wide ∧ In64 g.run ∧ In64 g.lev ∧ In64 g.pre
def Cmd.wide (c : Cmd) : Prop := In64 c.kind ∧ (∀ n ∈ c.nodes, n.wide) ∧ (∀ h ∈ c.hosts, h.wide) ∧ In64 c.half ∧ In64 c.age ∧ c.gang.wide ∧ In64 c.n
def Cmd.few (c : Cmd) : Prop := c.nodes.length + c.hosts.length ≤ 2000

theorem in64_ok {x : Int} (h : Cm.ok x = true) : In64 x := by rw [Cm.ok_iff] at h; unfold In64; omega
theorem in64_zero : In64 0 := by unfold In64; omega
theorem v3_ok {v : V3} (h : Cm.okV v = true) : v.wide := by
  simp only [Cm.okV, Bool.and_eq_true] at h
  exact ⟨in64_ok h.1.1, in64_ok h.1.2, in64_ok h.2⟩
theorem nd_ok {n : Nd} (h : Cm.okN n = true) : n.wide := by
  simp only [Cm.okN, Bool.and_eq_true, Cm.okP_iff] at h
  exact ⟨by have := h.1.1.1.1; unfold In64; omega, in64_ok h.1.1.1.2, v3_ok h.1.1.2, v3_ok h.1.2, v3_ok h.2⟩
theorem hs_ok {n : Hs} (h : Cm.okH n = true) : n.wide := by
  simp only [Cm.okH, Bool.and_eq_true] at h
  exact ⟨in64_ok h.1.1.1, in64_ok h.1.1.2, in64_ok h.1.2, v3_ok h.2⟩
theorem gg_ok {g : Gg} (h : Cm.okG g = true) : g.wide := by
  simp only [Cm.okG, Bool.and_eq_true] at h
  exact ⟨in64_ok h.1.1.1.1.1.1, in64_ok h.1.1.1.1.1.2, in64_ok h.1.1.1.1.2, v3_ok h.2, in64_ok h.1.1.1.2, in64_ok h.1.1.2, in64_ok h.1.2⟩
theorem gg_zero : Cm.zG.wide := ⟨in64_zero, in64_zero, in64_zero, ⟨in64_zero, in64_zero, in64_zero⟩, in64_zero, in64_zero, in64_zero⟩
theorem wide_zero : Cm.zero.wide := ⟨in64_zero, fun n h => by simp [Cm.zero] at h, fun n h => by simp [Cm.zero] at h, in64_zero, in64_zero, gg_zero, in64_zero⟩
theorem wide_check {c : Cmd} (h : Cm.check c = 0) : c.wide := by
  have hf := (Cm.check_zero h).1
  have hk := Cm.fine_kind hf
  have k64 : In64 c.kind := by unfold In64; omega
  unfold Cm.fine at hf
  split at hf
  · simp only [Bool.and_eq_true, Cm.bare, decide_eq_true_eq, Cm.okC, List.all_eq_true] at hf
    exact ⟨k64, fun n hn => nd_ok (hf.2.1.1.1 n hn), fun n hn => hs_ok (hf.2.1.1.2 n hn), in64_ok hf.2.1.2, in64_ok hf.2.2, by rw [hf.1.1]; exact gg_zero, by rw [hf.1.2]; exact in64_zero⟩
  split at hf
  · simp only [Bool.and_eq_true, decide_eq_true_eq, Cm.empty_iff] at hf
    exact ⟨k64, by rw [hf.1.1.1]; intro n hn; simp at hn, by rw [hf.1.1.2.1]; intro n hn; simp at hn, by rw [hf.1.1.2.2.1]; exact in64_zero, by rw [hf.1.1.2.2.2]; exact in64_zero, gg_ok hf.2, by rw [hf.1.2]; exact in64_zero⟩
  split at hf
  · simp only [Bool.and_eq_true, Cm.bare, decide_eq_true_eq, Cm.empty_iff] at hf
    exact ⟨k64, by rw [hf.1.1.1]; intro n hn; simp at hn, by rw [hf.1.1.2.1]; intro n hn; simp at hn, by rw [hf.1.1.2.2.1]; exact in64_zero, by rw [hf.1.1.2.2.2]; exact in64_zero, by rw [hf.1.2]; exact gg_zero, in64_ok hf.2⟩
  split at hf
  · simp only [Bool.and_eq_true, Cm.bare, decide_eq_true_eq, Cm.empty_iff] at hf
    exact ⟨k64, by rw [hf.1.1.1]; intro n hn; simp at hn, by rw [hf.1.1.2.1]; intro n hn; simp at hn, by rw [hf.1.1.2.2.1]; exact in64_zero, by rw [hf.1.1.2.2.2]; exact in64_zero, by rw [hf.1.2]; exact gg_zero, by rw [hf.2]; exact in64_zero⟩
  · cases hf
theorem few_check {c : Cmd} (h : Cm.check c = 0) : c.few := by
  have := Cm.check_zero h
  unfold Cmd.few; omega
end Go.Proofs.Ytkakgjmajplgmaa
