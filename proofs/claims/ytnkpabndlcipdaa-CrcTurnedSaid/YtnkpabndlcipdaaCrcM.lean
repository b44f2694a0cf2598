/- CRC-32C: the walk of the statement on a frame that is turned. -/
import Derived.Test.YtnkpabndlcipdaaCrcL
namespace Go.Proofs.Ytnkpabndlcipdaa
open Go.RowKit
set_option linter.unusedVariables false

set_option maxHeartbeats 1000000 in
theorem CrcTurned_no (s : ByteArray) (at_ : Int) (a0 : -9223372036854775808 ≤ at_) (a1 : at_ ≤ 9223372036854775807) (by_ : Int) (b0 : 0 ≤ by_) (b1 : by_ ≤ 255) (w : World) (h : 16384 < s.size) :
    Calls Try.prog 6 #[.string s, .int .i64 at_, .int .u8 by_] w (RetBelow (.bool true) w) := by
  go_enter Try.func6, Try.ntmps6
  go_wp2_with fail
  refine (cAwake_any _).mono ?_
  rintro e w1 ⟨rfl, g1⟩
  have G1 := Lib.hid g1; clear g1
  go_wp2_with fail
  go_ret
  exact ⟨rfl, G1.out⟩

set_option maxHeartbeats 1000000 in
theorem CrcTurned_zero (s : ByteArray) (at_ : Int) (a0 : -9223372036854775808 ≤ at_) (a1 : at_ ≤ 9223372036854775807) (w : World) (h : s.size ≤ 16384) :
    Calls Try.prog 6 #[.string s, .int .i64 at_, .int .u8 0] w (RetBelow (.bool true) w) := by
  go_enter Try.func6, Try.ntmps6
  go_wp2_with fail
  refine (cAwake_any _).mono ?_
  rintro e w1 ⟨rfl, g1⟩
  have G1 := Lib.hid g1; clear g1
  go_wp2_with fail
  go_ret
  exact ⟨rfl, G1.out⟩

theorem bytes_any (s : ByteArray) (w : World) : ∃ (cap : Nat) (w2 : World), (convert 9 33 (.string s)).run Try.prog w = .ok (.slice (some ⟨w.heap.size, 0, none⟩) s.size cap) w2 ∧
    (∀ j (hj : j < s.data.toList.length), w2.cell? ⟨w.heap.size, j, none⟩ = some (.int .u8 (s.data.toList[j].toNat : Int))) ∧ (∀ j, j < s.size → w2.frozen? ⟨w.heap.size, j, none⟩ = false) ∧ Below w.heap.size w w2 := by
  refine ⟨_, _, run_bytes_of_string w 9 33 5 s Try.underlying9 Try.underlying33 Try.underlying5, fun j hj => ?_, fun j hj => ?_, (Below.refl _ _).drew.alloc (Nat.le_refl _) _⟩
  · refine (World.cell?_alloc_mark w.drew _ _ _ j).trans ?_
    exact bytesRow_at s _ j (by simpa using hj)
  · refine (World.frozen?_alloc_mark w.drew _ _ _ _ j).trans ?_
    have : (bytesRow s (grownCap w s.size 0 5)).size ≥ s.size := by unfold bytesRow; simp
    simp; omega

theorem turned_back (w : World) (b cap i : Nat) (l : List UInt8) (v : UInt8) (hi : i < l.length) (hc : ∀ j (hj : j < l.length), w.cell? ⟨b, j, none⟩ = some (.int .u8 (l[j].toNat : Int))) :
    (convert 33 9 (.slice (some ⟨b, 0, none⟩) l.length cap)).run Try.prog (w.setCell ⟨b, i, none⟩ (.int .u8 (v.toNat : Int))) = .ok (.string ⟨(l.set i v).toArray⟩) (w.setCell ⟨b, i, none⟩ (.int .u8 (v.toNat : Int))) := by
  have := run_convert_bytes_back (P := Try.prog) (w.setCell ⟨b, i, none⟩ (.int .u8 (v.toNat : Int))) 33 9 5 ⟨b, 0, none⟩ cap (l.set i v) Try.underlying33 Try.underlying5 Try.underlying9 (fun j hj => by
    have hj' : j < l.length := by simpa using hj
    have e : (⟨b, 0, none⟩ : Addr).add j = ⟨b, j, none⟩ := by simp [Addr.add]; omega
    rw [e]
    by_cases h : i = j
    · subst h
      rw [World.cell?_setCell_same _ _ _ (hc i hi)]
      simp
    · rw [World.cell?_setCell_other _ _ _ _ (by intro e; injection e; omega), hc j hj', List.getElem_set_ne h])
  rw [List.length_set] at this
  exact this

set_option maxHeartbeats 1000000 in
theorem CrcTurned_yes (s : ByteArray) (at_ : Int) (a0 : -9223372036854775808 ≤ at_) (a1 : at_ ≤ 9223372036854775807) (b : Nat) (b0 : 0 < b) (b1 : b ≤ 255) (w : World) (h : s.size ≤ 16384) :
    Calls Try.prog 6 #[.string s, .int .i64 at_, .int .u8 (b : Int)] w (RetBelow (.bool true) w) := by
  have z1 := Cr.frame_size s
  obtain ⟨k, hk, ek⟩ := uModN at_ (s.size + 4) (by omega)
  have ek' : (IntKind.u64.wrap at_).tmod ((s.size : Int) + 4) = (k : Int) := ek
  clear ek
  have hl : (Cr.frame s).data.toList.length = s.size + 8 := by rw [ba_len, z1]
  have hi : 4 + k < (Cr.frame s).data.toList.length := by omega
  have hn : ((b : Int) == 0) = false := by simp; omega
  obtain ⟨x, hx⟩ : ∃ x : UInt8, (Cr.frame s).data.toList[4 + k] = x := ⟨_, rfl⟩
  have hlt : x.toNat ^^^ b < 256 := by
    have := x.toNat_lt
    exact Nat.xor_lt_two_pow (n := 8) (by omega) (by omega)
  obtain ⟨v, hv⟩ : ∃ v : UInt8, v.toNat = x.toNat ^^^ b := ⟨UInt8.ofNat (x.toNat ^^^ b), by rw [UInt8.toNat_ofNat']; exact Nat.mod_eq_of_lt hlt⟩
  have hne : x ≠ v := by
    intro e
    rw [← e] at hv
    have := congrArg (fun z => x.toNat ^^^ z) hv
    simp only [Nat.xor_self, ← Nat.xor_assoc, Nat.zero_xor] at this
    omega
  have hbits : bits .xor .u8 ((x.toNat : Nat) : Int) ((b : Nat) : Int) = ((v.toNat : Nat) : Int) := by
    rw [u8_xor_nat _ _ x.toNat_lt (by omega), hv]
  obtain ⟨T, hT⟩ : ∃ T : ByteArray, (⟨((Cr.frame s).data.toList.set (4 + k) v).toArray⟩ : ByteArray) = T := ⟨_, rfl⟩
  have c3 := fun w => Read_any T w
  rw [read_turned s T (4 + k) v h (by omega) (by omega) (by rw [← hT, frame_list]) (by rw [← frame_list, List.getD_eq_getElem?_getD, List.getElem?_eq_getElem hi, hx]; exact hne)] at c3
  have C3 := Lib.hid c3; have HL := Lib.hid hl; have HB := Lib.hid hbits; have HX := Lib.hid hx; have HT := Lib.hid hT
  clear c3 hv hne hl hbits hx hT
  go_enter Try.func6, Try.ntmps6
  go_wp2_with fail
  refine (Frame_some s (by omega) _).mono ?_
  rintro e w1 ⟨rfl, g1⟩
  obtain ⟨cap, w2, hconv, hcells, hfro, g2⟩ := bytes_any (Cr.frame s) w1
  rw [z1] at hconv hfro
  have hback := turned_back w2 w1.heap.size cap (4 + k) _ v hi hcells
  rw [HL.out, HT.out] at hback
  have hcell := hcells (4 + k) hi
  rw [HX.out] at hcell
  have hfr := hfro (4 + k) (by omega)
  have G2 := Lib.hid (below_trans g1 g2); have S2 : w.heap.size ≤ w1.heap.size := g1.size
  have hbits := HB.out
  clear g1 g2 hcells hfro
  go_wp2_with fail
  refine (C3.out _).mono ?_
  rintro e w3 ⟨rfl, g3⟩
  have G3 := Lib.hid ((G2.out.setCell (p := ⟨w1.heap.size, 4 + k, none⟩) S2 (.int .u8 (v.toNat : Int))).trans (g3.mono (G2.out.setCell (p := ⟨w1.heap.size, 4 + k, none⟩) S2 (.int .u8 (v.toNat : Int))).size)); clear g3 hbits hcell hfr hback
  unfold Cr.ans
  go_wp2_with fail
  refine (cAwake_any _).mono ?_
  rintro e w4 ⟨rfl, g4⟩
  have G4 := Lib.hid (below_trans G3.out g4); clear g4
  go_wp2_with fail
  go_ret
  exact ⟨rfl, G4.out⟩

theorem CrcTurned_walk (s : ByteArray) (at_ : Int) (a0 : -9223372036854775808 ≤ at_) (a1 : at_ ≤ 9223372036854775807) (by_ : Int) (b0 : 0 ≤ by_) (b1 : by_ ≤ 255) (w : World) :
    Calls Try.prog 6 #[.string s, .int .i64 at_, .int .u8 by_] w (RetBelow (.bool true) w) := by
  by_cases h : 16384 < s.size
  · exact CrcTurned_no s at_ a0 a1 by_ b0 b1 w h
  · obtain ⟨b, rfl⟩ := Int.eq_ofNat_of_zero_le b0
    by_cases hb : b = 0
    · subst hb
      exact CrcTurned_zero s at_ a0 a1 w (by omega)
    · exact CrcTurned_yes s at_ a0 a1 b (by omega) (by omega) w (by omega)

end Go.Proofs.Ytnkpabndlcipdaa
