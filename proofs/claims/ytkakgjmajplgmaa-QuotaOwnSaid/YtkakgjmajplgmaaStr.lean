/- Texts: as lists of bytes; cut; an index. -/
import Derived.Test.YtkakgjmajplgmaaBelow
import Derived.ScopeJumps
import Derived.WalkMore
import Derived.Laws.IdiomStrings
namespace Go.Proofs.Ytkakgjmajplgmaa
open Go.RowKit
set_option linter.unusedVariables false

def Cr.bt (s : ByteArray) (k : Nat) : Nat := (s.data.toList.getD k 0).toNat
theorem Cr.bt_lt (s : ByteArray) (k : Nat) : Cr.bt s k < 256 := (s.data.toList.getD k 0).toNat_lt
theorem Cr.bt_get (s : ByteArray) (k : Nat) (h : k < s.size) : Cr.bt s k = s[k].toNat := by
  unfold Cr.bt
  rw [List.getD_eq_getElem?_getD, List.getElem?_eq_getElem (by simpa using h)]
  rfl
theorem index_at (s : ByteArray) (k : Nat) (h : k < s.size) (w : World) : (Instr.index 9 (.string s) (.int .i64 (k : Int))).run Try.prog w = .ok (.int .u8 ((Cr.bt s k : Nat) : Int)) w := by
  rw [run_index_string w 9 s .i64 k Try.underlying9, dif_pos ⟨by omega, by omega⟩, Cr.bt_get s k h]
  rfl

theorem ba_ext {a b : ByteArray} (h : a.data.toList = b.data.toList) : a = b := by
  apply ByteArray.ext
  exact Array.toList_inj.1 h
theorem ba_len (a : ByteArray) : a.data.toList.length = a.size := by simp
theorem ba_app (a b : ByteArray) : (a ++ b).data.toList = a.data.toList ++ b.data.toList := by simp [ByteArray.data_append]
theorem ba_cut (s : ByteArray) (a b : Nat) : (s.extract a b).data.toList = (s.data.toList.drop a).take (b - a) := by
  simp [ByteArray.data_extract]
theorem ba_from (s : ByteArray) (a : Nat) : (s.extract a s.size).data.toList = s.data.toList.drop a := by
  rw [ba_cut]
  exact List.take_of_length_le (by rw [List.length_drop, ba_len]; exact Nat.le_refl _)
theorem ba_size (l : List UInt8) : (⟨l.toArray⟩ : ByteArray).size = l.length := by simp [ByteArray.size]
theorem ba_self (a : ByteArray) : (⟨a.data.toList.toArray⟩ : ByteArray) = a := by apply ba_ext; simp
theorem ba_join (a b : List UInt8) : (⟨a.toArray⟩ : ByteArray) ++ ⟨b.toArray⟩ = ⟨(a ++ b).toArray⟩ := by apply ba_ext; rw [ba_app]
theorem ba_none (a : ByteArray) : (⟨#[]⟩ : ByteArray) ++ a = a := by apply ba_ext; rw [ba_app]; simp
theorem ba_cat (a b c : ByteArray) : a ++ b ++ c = a ++ (b ++ c) := by apply ba_ext; rw [ba_app, ba_app, ba_app, ba_app, List.append_assoc]
theorem ba_past (a b : ByteArray) : (a ++ b).extract a.size (a ++ b).size = b := by apply ba_ext; rw [ba_from, ba_app, ← ba_len, List.drop_left]

theorem str_from (s : ByteArray) (k : Nat) (h : k ≤ s.size) (w : World) : (Instr.slice 9 (.string s) (some (.int .i64 (k : Int))) none none).run Try.prog w = .ok (.string (s.extract k s.size)) w := by
  rw [run_slice_string_from_if w 9 s .i64 k Try.underlying9, if_pos ⟨by omega, by omega⟩]
  rfl
theorem str_to (s : ByteArray) (n : Nat) (h : n ≤ s.size) (w : World) : (Instr.slice 9 (.string s) none (some (.int .i64 (n : Int))) none).run Try.prog w = .ok (.string (s.extract 0 n)) w := by
  rw [run_slice_string_to_if w 9 _ .i64 _ Try.underlying9, if_pos ⟨by omega, by omega⟩]
  rfl

end Go.Proofs.Ytkakgjmajplgmaa
