/- CRC-32C: what is read of a frame, of one that is turned, of one that is not all there. -/
import Derived.Test.YtcjpednhefeboaaCrcE
namespace Go.Proofs.Ytcjpednhefeboaa
open Go.RowKit
set_option linter.unusedVariables false

theorem frame_list (s : ByteArray) : (Cr.frame s).data.toList = Cr.frameL s.data.toList := by
  unfold Cr.frame Cr.frameL
  rw [ba_app, ba_app, ba_len, List.append_assoc]
  rfl

/-- What is read, told of lists. -/
theorem read_ok (s t : ByteArray) (h8 : 8 ≤ t.size) (hb : Cr.backL t.data.toList = s.size) (h1 : s.size ≤ 16384) (h2 : 8 + s.size ≤ t.size) (ht : (t.data.toList.drop 8).take s.size = s.data.toList) (hs : Cr.backL (t.data.toList.drop 4) = Cr.sumL s.data.toList) :
    Cr.read t = (s, 8 + (s.size : Int), 0) := by
  have eb : Cr.back t = s.size := hb
  have et : Cr.text t = s := by
    unfold Cr.text
    apply ba_ext
    rw [ba_cut, eb, Nat.add_sub_cancel_left]
    exact ht
  have es : Cr.back (t.extract 4 t.size) = Cr.sum s := by
    unfold Cr.back Cr.sum
    rw [ba_from]
    exact hs
  unfold Cr.read
  rw [if_neg (by omega), if_neg (by omega), if_neg (by omega), et, es, if_pos rfl, eb]

theorem read_bad (n : Nat) (t : ByteArray) (h8 : 8 ≤ t.size) (hb : Cr.backL t.data.toList = n) (h1 : n ≤ 16384) (h2 : 8 + n ≤ t.size) (hs : Cr.backL (t.data.toList.drop 4) ≠ Cr.sumL ((t.data.toList.drop 8).take n)) :
    Cr.read t = (⟨#[]⟩, 0, 11) := by
  have eb : Cr.back t = n := hb
  have et : Cr.sum (Cr.text t) = Cr.sumL ((t.data.toList.drop 8).take n) := by
    unfold Cr.sum Cr.text
    rw [ba_cut, eb, Nat.add_sub_cancel_left]
  have es : Cr.back (t.extract 4 t.size) = Cr.backL (t.data.toList.drop 4) := by
    unfold Cr.back
    rw [ba_from]
  unfold Cr.read
  rw [if_neg (by omega), if_neg (by omega), if_neg (by omega), et, es, if_neg (fun e => hs e.symm)]

theorem read_frame (s t : ByteArray) (h : s.size ≤ 16384) : Cr.read (Cr.frame s ++ t) = (s, 8 + (s.size : Int), 0) := by
  have hl : (Cr.frame s ++ t).data.toList = Cr.frameL s.data.toList ++ t.data.toList := by rw [ba_app, frame_list]
  have hz : (Cr.frame s ++ t).size = s.size + 8 + t.size := by rw [ByteArray.size_append, Cr.frame_size]
  refine read_ok s _ (by omega) ?_ h (by omega) ?_ ?_
  · rw [hl, Cr.frame_len _ _ (by rw [ba_len]; omega), ba_len]
  · rw [hl, Cr.frame_text]
    exact List.take_left' (ba_len s)
  · rw [hl, Cr.frame_sum]

theorem read_short (s t : ByteArray) (k : Nat) (h : s.size ≤ 16384) (hk : k < s.size + 8) (ht : t.data.toList = (Cr.frameL s.data.toList).take k) : Cr.read t = (⟨#[]⟩, 0, 10) := by
  have hz : t.size = k := by
    rw [← ba_len, ht, List.length_take, Cr.frameL_length, ba_len]; omega
  by_cases h8 : t.size < 8
  · unfold Cr.read
    rw [if_pos h8]
  · have eb : Cr.back t = s.size := by
      unfold Cr.back
      rw [ht]
      have := Cr.frame_len s.data.toList [] (by rw [ba_len]; omega)
      rw [List.append_nil, ba_len] at this
      rw [← this]
      unfold Cr.backL
      simp only [List.getD_eq_getElem?_getD, List.getElem?_take]
      rw [if_pos (by omega), if_pos (by omega), if_pos (by omega), if_pos (by omega)]
    unfold Cr.read
    rw [if_neg h8, if_neg (by omega), if_pos (by omega)]

theorem getD_set_ne' (l : List UInt8) (i j : Nat) (v : UInt8) (h : i ≠ j) : (l.set i v).getD j 0 = l.getD j 0 := by
  rw [List.getD_eq_getElem?_getD, List.getD_eq_getElem?_getD, List.getElem?_set_ne h]

theorem back_set (l : List UInt8) (i : Nat) (v : UInt8) (h : 4 ≤ i) : Cr.backL (l.set i v) = Cr.backL l := by
  unfold Cr.backL
  rw [getD_set_ne' _ _ _ _ (by omega), getD_set_ne' _ _ _ _ (by omega), getD_set_ne' _ _ _ _ (by omega), getD_set_ne' _ _ _ _ (by omega)]

theorem four_turned (n : Nat) (i : Nat) (v : UInt8) (r : List UInt8) (hi : i < 4) (hv : (Cr.fourL n).getD i 0 ≠ v) : Cr.backL ((Cr.fourL n ++ r).set i v) ≠ Cr.backL (Cr.fourL n ++ r) := by
  intro e
  have : i = 0 ∨ i = 1 ∨ i = 2 ∨ i = 3 := by omega
  rcases this with rfl | rfl | rfl | rfl
  · exact hv (Cr.back_inj _ _ _ _ _ _ _ _ _ _ e).1.symm
  · exact hv (Cr.back_inj _ _ _ _ _ _ _ _ _ _ e).2.1.symm
  · exact hv (Cr.back_inj _ _ _ _ _ _ _ _ _ _ e).2.2.1.symm
  · exact hv (Cr.back_inj _ _ _ _ _ _ _ _ _ _ e).2.2.2.symm

theorem text_turned (l : List UInt8) (i : Nat) (v : UInt8) (hi : i < l.length) (hv : l.getD i 0 ≠ v) : Cr.sumL (l.set i v) ≠ Cr.sumL l := by
  have e1 : l = l.take i ++ l[i] :: l.drop (i + 1) := by
    rw [← List.drop_eq_getElem_cons hi, List.take_append_drop]
  have e2 : l.set i v = l.take i ++ v :: l.drop (i + 1) := by
    rw [List.set_eq_take_append_cons_drop, if_pos hi]
  have hg : l.getD i 0 = l[i] := by rw [List.getD_eq_getElem?_getD, List.getElem?_eq_getElem hi]; rfl
  rw [hg] at hv
  rw [e2]
  conv => rhs; rw [e1]
  exact Cr.sum_turned _ _ _ _ (Ne.symm hv)

theorem read_turned (s t : ByteArray) (i : Nat) (v : UInt8) (h : s.size ≤ 16384) (h4 : 4 ≤ i) (hi : i < s.size + 8) (ht : t.data.toList = (Cr.frameL s.data.toList).set i v) (hv : (Cr.frameL s.data.toList).getD i 0 ≠ v) : Cr.read t = (⟨#[]⟩, 0, 11) := by
  have hz : t.size = s.size + 8 := by rw [← ba_len, ht, List.length_set, Cr.frameL_length, ba_len]
  have hb : Cr.backL t.data.toList = s.size := by
    have := Cr.frame_len s.data.toList [] (by rw [ba_len]; omega)
    rw [List.append_nil, ba_len] at this
    rw [← this, ht, back_set _ _ _ h4]
  refine read_bad s.size t (by omega) hb h (by omega) ?_
  rw [ht, List.drop_set, List.drop_set, if_neg (by omega)]
  have d4 : (Cr.frameL s.data.toList).drop 4 = Cr.fourL (Cr.sumL s.data.toList) ++ s.data.toList := rfl
  have d8 : (Cr.frameL s.data.toList).drop 8 = s.data.toList := rfl
  have hs : Cr.backL (Cr.fourL (Cr.sumL s.data.toList) ++ s.data.toList) = Cr.sumL s.data.toList := Cr.back_four _ (Cr.sumL_lt _) _
  rw [d4, d8]
  by_cases h8 : i < 8
  · rw [if_pos h8, List.take_of_length_le (Nat.le_of_eq (ba_len s)), ]
    have hv' : (Cr.fourL (Cr.sumL s.data.toList)).getD (i - 4) 0 ≠ v := by
      intro e
      apply hv
      have e1 : (Cr.frameL s.data.toList).getD i 0 = ((Cr.frameL s.data.toList).drop 4).getD (i - 4) 0 := by
        rw [List.getD_eq_getElem?_getD, List.getD_eq_getElem?_getD, List.getElem?_drop]
        congr 2; omega
      rw [e1, d4, List.getD_eq_getElem?_getD, List.getElem?_append_left (by rw [Cr.fourL_length]; omega), ← List.getD_eq_getElem?_getD]
      exact e
    have := four_turned (Cr.sumL s.data.toList) (i - 4) v s.data.toList (by omega) hv'
    rw [hs] at this
    exact this
  · rw [if_neg h8]
    have e0 : Cr.backL ((Cr.fourL (Cr.sumL s.data.toList) ++ s.data.toList).set (i - 4) v) = Cr.sumL s.data.toList := by rw [back_set _ _ _ (by omega), hs]
    rw [e0, List.take_of_length_le (by rw [List.length_set, ba_len]; exact Nat.le_refl _)]
    have hv' : s.data.toList.getD (i - 8) 0 ≠ v := by
      intro e
      apply hv
      have e1 : (Cr.frameL s.data.toList).getD i 0 = ((Cr.frameL s.data.toList).drop 8).getD (i - 8) 0 := by
        rw [List.getD_eq_getElem?_getD, List.getD_eq_getElem?_getD, List.getElem?_drop]
        congr 2; omega
      rw [e1, d8]
      exact e
    exact Ne.symm (text_turned s.data.toList (i - 8) v (by rw [ba_len]; omega) hv')

end Go.Proofs.Ytcjpednhefeboaa
