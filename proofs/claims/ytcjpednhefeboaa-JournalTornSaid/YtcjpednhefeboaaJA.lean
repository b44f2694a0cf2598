/- The chapter's examples, over a journal that keeps its contracts. -/
import Derived.Test.YtcjpednhefeboaaJC
namespace Go.Proofs.Ytcjpednhefeboaa
open Go.RowKit
set_option linter.unusedVariables false

namespace Jn
def abc : ByteArray := ⟨#[97, 98, 99]⟩
def x1 : ByteArray := ⟨#[120]⟩
theorem list_arr (s : ByteArray) : (⟨s.data.toList.toArray⟩ : ByteArray) = s := by cases s; rfl
theorem abc_small : ∀ t ∈ [abc, abc], t.size ≤ 16384 := by decide +kernel
theorem scan_abc : scan (Cr.frame abc ++ Cr.frame abc ++ (Cr.frame abc).extract 0 5) = ([abc, abc], 22) := by
  have h := scan_torn [abc, abc] abc_small abc ((Cr.frame abc).extract 0 5) 5 (by decide +kernel) (by decide +kernel) (by rw [ba_cut, frame_list]; rfl)
  have e : frames [abc, abc] = Cr.frame abc ++ Cr.frame abc := by simp only [frames]; rw [app_none]
  rw [e] at h
  rw [h]
  have : (Cr.frame abc ++ Cr.frame abc).size = 22 := by rw [ByteArray.size_append, Cr.frame_size]; decide +kernel
  rw [this]
theorem text_new (n : Int) : text (Dk.new n) = ⟨#[]⟩ := rfl
theorem scan_none : scan ⟨#[]⟩ = ([], 0) := scan_stop (by decide +kernel)
theorem opened_new (n : Int) : opened (Dk.new n) = Dk.new n := by
  unfold opened
  rw [text_new, scan_none, if_neg (by decide)]
theorem app_x : app (Dk.new 1000) 0 x1 = (0, ⟨1000, (Cr.frame x1).data.toList, (Cr.frame x1).data.toList, false⟩, 1) := by
  unfold app
  rw [if_neg (by decide +kernel), if_neg (by rw [Cr.frame_size]; decide +kernel)]
  have e : ((Dk.new 1000).put (Cr.frame x1)).sync = ⟨1000, (Cr.frame x1).data.toList, (Cr.frame x1).data.toList, false⟩ := by
    unfold Dk.sync Dk.settle Dk.put Dk.new
    simp only [List.nil_append, List.take_length]
    rfl
  rw [e]
/-- What a disk of frames holds. -/
theorem scan_disk (z : Nat) (ts : List ByteArray) (h : ∀ t ∈ ts, t.size ≤ 16384) : scan (text ⟨z, (frames ts).data.toList, (frames ts).data.toList, false⟩) = (ts, (frames ts).size) ∧ opened ⟨z, (frames ts).data.toList, (frames ts).data.toList, false⟩ = ⟨z, (frames ts).data.toList, (frames ts).data.toList, false⟩ := by
  have e : text ⟨z, (frames ts).data.toList, (frames ts).data.toList, false⟩ = frames ts := list_arr _
  have hs := scan_all ts h
  refine ⟨by rw [e, hs], ?_⟩
  unfold opened
  rw [e, hs, if_neg (by simp)]
theorem frames_one (t : ByteArray) : frames [t] = Cr.frame t := by simp only [frames]; rw [app_none]
end Jn

theorem texts_at {w : World} {ao : Option Addr} {cap : Nat} {ts : List ByteArray} (h : Texts w ao cap ts) (i : Nat) (hi : i < ts.length) (x : ByteArray) (hx : ts.getD i ⟨#[]⟩ = x) : ∃ g, ao = some ⟨g, 0, none⟩ ∧ (∀ w0, (Instr.indexAt 23 (.slice ao ts.length cap) (.int .i64 (i : Int))).run Try.prog w0 = .ok (.pointer (some ⟨g, i, none⟩)) w0) ∧ w.cell? ⟨g, i, none⟩ = some (.string x) := by
  rcases h with ⟨rfl, rfl, rfl⟩ | ⟨g, rfl, h1, h2, h3⟩
  · simp at hi
  · refine ⟨g, rfl, fun w0 => ?_, by rw [h3 i hi, hx]⟩
    have := text_index g 0 ts.length cap i hi w0
    rwa [Nat.zero_add] at this

set_option maxRecDepth 8000 in
set_option maxHeartbeats 1000000 in
theorem jAwake_any (C : JC) (w : World) : Calls Try.prog 8 #[] w (RetBelow (.bool true) w) := by
  have hfr : Cr.frm Jn.abc = Cr.frame Jn.abc := by unfold Cr.frm; rw [if_pos (by decide +kernel)]
  have hf := rFrame_any Jn.abc w
  have hsc := Jn.scan_abc
  have hz : (Cr.frame Jn.abc).size = 11 := by rw [Cr.frame_size]; decide +kernel
  have hcut := fun w => text_to (Cr.frame Jn.abc) 5 (by omega) w
  rw [hfr] at hf
  obtain ⟨f, hf'⟩ : ∃ f, Cr.frame Jn.abc = f := ⟨_, rfl⟩
  rw [hf'] at hf hsc hz hcut
  have hz5 : (f.extract 0 5).size = 5 := by rw [ByteArray.size_extract]; omega
  have hs1 := fun w => C.scan (f ++ f ++ f.extract 0 5) (by rw [ByteArray.size_append, ByteArray.size_append]; omega) w
  unfold Scans at hs1
  rw [hsc] at hs1
  have HF := Lib.hid hf; have HS := Lib.hid hs1
  clear hfr hf hf' hsc hs1
  go_enter Try.func8, Try.ntmps8
  go_wp2_with fail
  refine HF.out.mono ?_
  rintro e w1 ⟨rfl, g1⟩
  have G1 := Lib.hid g1; clear g1
  go_wp2_with fail
  refine (HS.out _).mono ?_
  rintro e w2 ⟨la, lc, rfl, tl, hl, g2⟩
  have G2 := Lib.hid (below_trans G1.out g2)
  have TL := Lib.hid tl
  have cn := Lib.hid (New_any (F := fun k => k < w2.heap.size) 1000 w2 (fun _ h => h))
  clear g2 tl hl HF HS G1
  simp only [List.length_cons, List.length_nil, Nat.reduceAdd]
  go_wp2_with fail
  refine cn.out.mono ?_
  rintro e w3 ⟨rfl, h3, g3⟩
  have co := C.open_ h3
  rw [Jn.text_new, Jn.scan_none, Jn.opened_new] at co
  have CO := Lib.hid co; have G3 := Lib.hid g3
  clear co h3 g3 cn
  go_wp2_with fail
  refine CO.out.mono ?_
  rintro e w4 ⟨j, na, nc, rfl, j4, t4, hj4, hn4, k4⟩
  have ca := C.append j4 Jn.x1 (by simp)
  have e0 : ([] : List ByteArray).length = 0 := rfl
  rw [e0, Jn.app_x] at ca
  have CA := Lib.hid ca; have K4 := Lib.hid (G3.out.trans (k4.below fun _ h => h))
  clear ca j4 t4 hj4 hn4 k4 CO e0
  simp only [List.length_nil]
  go_wp2_with fail
  refine CA.out.mono ?_
  rintro e w5 ⟨rfl, j5, k5⟩
  have co := C.open_ (C.disk j5)
  have hsd := Jn.scan_disk 1000 [Jn.x1] (by decide +kernel)
  rw [← Jn.frames_one, hsd.1, hsd.2] at co
  have K5 := Lib.hid (K4.out.trans (k5.below fun _ h => .inl h))
  have CO := Lib.hid co
  clear co hsd j5 k5 K4 CA
  go_wp2_with fail
  refine CO.out.mono ?_
  rintro e w6 ⟨k, oa, oc, rfl, j6, t6, hj6, hn6, k6⟩
  have K6 := Lib.hid (K5.out.trans (k6.below fun _ h => .inl h))
  obtain ⟨gl, rfl, il, cl⟩ := texts_at (TL.out.below K6.out) 1 (by decide) Jn.abc rfl
  obtain ⟨go, rfl, io, co⟩ := texts_at t6 0 (by decide) Jn.x1 rfl
  have cr := Lib.hid (C.records j6)
  have il' : ∀ w0, (Instr.indexAt 23 (.slice (some ⟨gl, 0, none⟩) 2 lc) (.int .i64 1)).run Try.prog w0 = .ok (.pointer (some ⟨gl, 1, none⟩)) w0 := il
  have io' : ∀ w0, (Instr.indexAt 23 (.slice (some ⟨go, 0, none⟩) 1 oc) (.int .i64 0)).run Try.prog w0 = .ok (.pointer (some ⟨go, 0, none⟩)) w0 := io
  have cl' : w6.cell? ⟨gl, 1, none⟩ = some (.string ⟨#[97, 98, 99]⟩) := cl
  have co' : w6.cell? ⟨go, 0, none⟩ = some (.string ⟨#[120]⟩) := co
  have E := Lib.hid (Below.trans (G2.out.trans (K6.out.mono G2.out.size)) (Below.refl _ w6))
  clear il io cl co j6 t6 hj6 hn6 k6 K5 K6 CO TL G2 G3
  simp only [List.length_cons, List.length_nil, Nat.reduceAdd]
  go_wp2_with fail
  refine cr.out.mono ?_
  rintro e w7 ⟨rfl, rfl⟩
  go_wp2_with fail
  go_ret
  exact ⟨rfl, E.out⟩

end Go.Proofs.Ytcjpednhefeboaa
