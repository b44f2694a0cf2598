/- A record that is torn: the statement's walk, over a journal that keeps its contracts. -/
import Derived.Test.YtcjpednhefeboaaJL
namespace Go.Proofs.Ytcjpednhefeboaa
open Go.RowKit
set_option linter.unusedVariables false

namespace Jn
/-- Frames, and the first bytes of one more. -/
def torn (ts : List ByteArray) (u : ByteArray) : Dk := ⟨1048576, (frames ts ++ u).data.toList, (frames ts ++ u).data.toList, false⟩
theorem full_free (ts : List ByteArray) : (full ts).free = 1048576 - (frames ts).size := by
  unfold Dk.free full
  simp only [Dk.len_data]
theorem app_ok (ts : List ByteArray) (x : ByteArray) (hx : x.size ≤ 16384) (h : (frames ts).size + x.size + 8 ≤ 1048576) : app (full ts) ts.length x = (0, full (ts ++ [x]), (ts ++ [x]).length) := by
  unfold app
  rw [if_neg (by omega), full_free, if_neg (by rw [Cr.frame_size]; omega)]
  have e : ((full ts).put (Cr.frame x)).sync = full (ts ++ [x]) := by
    unfold Dk.sync Dk.settle Dk.put full
    simp only [List.take_length]
    rw [frames_snoc, ba_app]
  rw [e, List.length_append]
  rfl
theorem write_ok (ts : List ByteArray) (f : ByteArray) (h : (frames ts).size + f.size ≤ 1048576) : ¬ (full ts).free < f.size ∧ (full ts).write f = ⟨1048576, (frames ts).data.toList, (frames ts).data.toList ++ f.data.toList, false⟩ := by
  have hn : ¬ (full ts).free < f.size := by rw [full_free]; omega
  refine ⟨hn, ?_⟩
  unfold Dk.write
  rw [if_neg hn]
  rfl
theorem crash_torn (ts : List ByteArray) (f : ByteArray) (k : Int) : (⟨1048576, (frames ts).data.toList, (frames ts).data.toList ++ f.data.toList, false⟩ : Dk).crash k = torn ts (f.extract 0 (min k.toNat f.size)) := by
  have hw : (⟨1048576, (frames ts).data.toList, (frames ts).data.toList ++ f.data.toList, false⟩ : Dk).waiting = f.size := by
    unfold Dk.waiting
    simp only [List.length_append, Dk.len_data]
    simp
  unfold Dk.crash Dk.keep
  rw [hw, if_neg (by simp)]
  unfold Dk.settle torn
  simp only [List.length_append, Dk.len_data]
  rw [show (frames ts).size + f.size - f.size + min k.toNat f.size = (frames ts).data.toList.length + min k.toNat f.size by rw [Dk.len_data]; omega, List.take_length_add_append]
  rw [ba_app, ba_cut, List.drop_zero, Nat.sub_zero]
theorem torn_whole (ts : List ByteArray) (s : ByteArray) (k : Int) (h : ((Cr.frame s).size : Int) ≤ k) : torn ts ((Cr.frame s).extract 0 (min k.toNat (Cr.frame s).size)) = full (ts ++ [s]) := by
  rw [show min k.toNat (Cr.frame s).size = (Cr.frame s).size by omega]
  have e : (Cr.frame s).extract 0 (Cr.frame s).size = Cr.frame s := cut_none _
  unfold torn full
  rw [e, frames_snoc]
theorem torn_scan (ts : List ByteArray) (h : ∀ t ∈ ts, t.size ≤ 16384) (s : ByteArray) (hs : s.size ≤ 16384) (k : Int) (hk : k < ((Cr.frame s).size : Int)) : scan (text (torn ts ((Cr.frame s).extract 0 (min k.toNat (Cr.frame s).size)))) = (ts, (frames ts).size) ∧ opened (torn ts ((Cr.frame s).extract 0 (min k.toNat (Cr.frame s).size))) = full ts := by
  have hz := Cr.frame_size s
  have e : text (torn ts ((Cr.frame s).extract 0 (min k.toNat (Cr.frame s).size))) = frames ts ++ (Cr.frame s).extract 0 (min k.toNat (Cr.frame s).size) := list_arr _
  have hsc : scan (frames ts ++ (Cr.frame s).extract 0 (min k.toNat (Cr.frame s).size)) = (ts, (frames ts).size) :=
    scan_torn ts h s _ (min k.toNat (Cr.frame s).size) hs (by omega) (by rw [ba_cut, frame_list, List.drop_zero, Nat.sub_zero])
  refine ⟨by rw [e, hsc], ?_⟩
  unfold opened
  rw [e, hsc]
  simp only
  split
  · have e2 : (frames ts ++ (Cr.frame s).extract 0 (min k.toNat (Cr.frame s).size)).extract 0 (frames ts).size = frames ts := by
      apply ba_ext
      rw [ba_cut, ba_app, List.drop_zero, Nat.sub_zero, ← ba_len, List.take_left]
    rw [e2]
    unfold Dk.sync Dk.settle Dk.swap full torn
    simp only [List.take_length]
  · rename_i hn
    rw [ByteArray.size_append] at hn
    have hu : ((Cr.frame s).extract 0 (min k.toNat (Cr.frame s).size)).size = 0 := by omega
    have hl : ((Cr.frame s).extract 0 (min k.toNat (Cr.frame s).size)).data.toList = [] := List.eq_nil_of_length_eq_zero (by rw [ba_len]; exact hu)
    unfold torn full
    rw [ba_app, hl, List.append_nil]
end Jn

/-- A copy of a list of texts. -/
theorem gath_copy {w : World} {B : Nat} {ao : Option Addr} {cap : Nat} {ts : List ByteArray} (h : Gath w B ao cap ts) (hl : ts.length ≤ 1048576) :
    ∃ ao' cap' w', (Builtin.append_ #[23, 23] 23 #[.slice none 0 0, .slice ao ts.length cap]).run Try.prog w = .ok (.slice ao' ts.length cap') w' ∧ Gath w' w.heap.size ao' cap' ts ∧ Below w.heap.size w w' := by
  obtain ⟨i, hi, hz0, hz1, hz2⟩ := info_parts text_info
  rcases h.2 with ⟨hn, h0⟩ | ⟨g, cap0, cur, hgv, hbg, hg, hnc, hcm, hcs, htake⟩
  · injection hn with e1 e2 e3
    subst e1 e3
    have : ts = [] := List.eq_nil_of_length_eq_zero h0
    subst this
    refine ⟨none, 0, w, ?_, Gath.none_ _ _, Below.refl _ _⟩
    simp [Builtin.append_, run_underlying Try.underlying23, sizeOf, typeInfo, hi, Builtin.lenOf, Builtin.firstCells]
  · injection hgv with e1 e2 e3
    subst e1 e3
    have hcells := h.cells (g := g) rfl
    obtain ⟨v', w', hr, hown', hgrow, _⟩ := run_append_own (P := Try.prog) w w.heap.size 23 23 9 i (.string ⟨#[]⟩) 1 16 Try.underlying23 hi hz0 hz1 hz2 rfl (by decide) _ _ _ (World.ownsRow_nil w w.heap.size 9 1) ⟨g, 0, none⟩ ts.length cap (ts.map Value.string) (by simp) hcells
      (fun u hu => by obtain ⟨x, _, rfl⟩ := List.mem_map.1 hu; rfl) (by unfold maxLen; omega) (by omega) (Nat.le_refl _)
    rw [Nat.zero_add, List.nil_append] at hown'
    obtain ⟨ao', cap', hv, _, _⟩ := Texts.of_owned hown' (by omega)
    subst hv
    exact ⟨ao', cap', w', hr, hown', ⟨hgrow.os, hgrow.tape, hgrow.output, hgrow.size, fun k hk => hgrow.block k hk (by simp [Value.ownBlock])⟩⟩

end Go.Proofs.Ytcjpednhefeboaa
