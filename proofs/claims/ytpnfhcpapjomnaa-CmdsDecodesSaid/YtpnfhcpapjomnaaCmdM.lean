/- Commands: awake. -/
import Derived.Test.YtpnfhcpapjomnaaCmdL
namespace Go.Proofs.Ytpnfhcpapjomnaa
open Go.RowKit
set_option linter.unusedVariables false

namespace Cm
def five : Cmd := ⟨5, [], [], 0, 0, zG, 5⟩
def six : Cmd := ⟨6, [], [], 0, 0, zG, 0⟩
theorem pn_lit (k : Nat) (h : k < 128) : pn (k : Int) = ⟨#[UInt8.ofNat k]⟩ := by
  unfold pn Nu.put
  rw [Int.toNat_natCast, Nu.putL_lt h]
theorem check_five : check five = 0 := by decide
theorem check_six : check six = 0 := by decide
theorem check_nil : check zero = 1 := by decide
theorem put_five : put five = ⟨#[5, 5]⟩ := by
  unfold put five
  rw [if_neg (by decide), if_neg (by decide), if_neg (by decide)]
  rw [show (5 : Int) = ((5 : Nat) : Int) from rfl, pn_lit 5 (by decide)]
  rfl
theorem put_six : put six = ⟨#[6]⟩ := by
  unfold put six
  rw [if_neg (by decide), if_neg (by decide), if_pos rfl, ba_right]
  rw [show (6 : Int) = ((6 : Nat) : Int) from rfl, pn_lit 6 (by decide)]
  rfl
theorem encode_five : encode five = (⟨#[5, 5]⟩, 0) := by
  unfold encode
  rw [if_neg (by rw [check_five]; simp), put_five]
theorem decode_six : decode ⟨#[6]⟩ = (six, 0) := by rw [← put_six]; exact decode_put check_six
theorem decode_bad : decode ⟨#[6, 0]⟩ = (zero, 10) := by
  have e : (⟨#[6, 0]⟩ : ByteArray) = pn 6 ++ ⟨#[0]⟩ := by
    rw [show (6 : Int) = ((6 : Nat) : Int) from rfl, pn_lit 6 (by decide)]
    apply ba_ext
    rw [ba_app]
    rfl
  have hp : parse ⟨#[6, 0]⟩ = (six, ⟨⟨#[0]⟩, false⟩) := by
    unfold parse
    rw [e, num_back 6 (by decide) (by decide)]
    rfl
  exact decode_wrong hp (.inr (.inl (by intro h; have := congrArg ByteArray.size h; simp [ByteArray.size] at this)))
end Cm

set_option maxHeartbeats 1000000 in
set_option maxRecDepth 8000 in
theorem cAwake_any (C : CmC) (w : World) : Calls Try.prog 9 #[] w (RetBelow (.bool true) w) := by
  have w5 : Cm.five.wide := wide_check Cm.check_five
  have w6 : Cm.six.wide := wide_check Cm.check_six
  have f5 : Cm.five.few := by unfold Cmd.few Cm.five; simp
  have f6 : Cm.six.few := by unfold Cmd.few Cm.six; simp
  have f0 : Cm.zero.few := by unfold Cmd.few Cm.zero; simp
  have e1 := fun w => C.encode Cm.five (.slice none 0 0) (.slice none 0 0) w w5 f5 (CmAt.none _ _ rfl rfl)
  have e2 := fun w => C.decode ⟨#[6, 0]⟩ w (by decide)
  have e3 := fun w => C.decode ⟨#[6]⟩ w (by decide)
  have e4 := fun w => C.check Cm.zero (.slice none 0 0) (.slice none 0 0) w wide_zero f0 (CmAt.none _ _ rfl rfl)
  have e5 := fun vn vh w h => C.same Cm.six Cm.six vn vh vn vh w w6 f6 w6 f6 h h
  have e6 := fun vn vh w h => C.same Cm.six Cm.zero vn vh (.slice none 0 0) (.slice none 0 0) w w6 f6 wide_zero f0 h (CmAt.none _ _ rfl rfl)
  rw [Cm.encode_five] at e1
  rw [Cm.decode_bad] at e2
  rw [Cm.decode_six] at e3
  rw [Cm.check_nil] at e4
  rw [show decide (Cm.six = Cm.six) = true by decide] at e5
  rw [show decide (Cm.six = Cm.zero) = false by decide] at e6
  simp only [Cmd.c, Cm.five, Cm.six, Cm.zero, Cm.zG] at e1 e2 e3 e4 e5 e6
  have E1 := Lib.hid e1; have E2 := Lib.hid e2; have E3 := Lib.hid e3; have E4 := Lib.hid e4; have E5 := Lib.hid e5; have E6 := Lib.hid e6
  clear e1 e2 e3 e4 e5 e6 w5 w6 f5 f6 f0
  go_enter Try.func9, Try.ntmps9
  go_wp2_with fail
  refine (E1.out _).mono ?_
  rintro er w1 ⟨rfl, b1⟩
  have B1 := Lib.hid b1; clear b1
  go_wp2_with fail
  refine (E2.out _).mono ?_
  rintro er w2 ⟨vn, vh, rfl, h2, b2⟩
  obtain ⟨an, ln, cn, ah, lh, ch, rfl, rfl⟩ := h2.slices
  have B2 := Lib.hid (below_trans B1.out b2); clear b2 h2
  go_wp2_with fail
  refine (E3.out _).mono ?_
  rintro er w3 ⟨vn, vh, rfl, h3, b3⟩
  obtain ⟨an, ln, cn, ah, lh, ch, rfl, rfl⟩ := h3.slices
  have B3 := Lib.hid (below_trans (B2.out.alloc B2.out.size _) b3)
  have g3 : Below w3.heap.size w3 (w3.alloc (.cells #[.int .i64 6, .slice an ln cn, .slice ah lh ch, .int .i64 0, .int .i64 0, .int .i64 0, .int .i64 0, .int .i64 0, .int .i64 0, .int .i64 0, .int .i64 0, .int .i64 0, .int .i64 0, .int .i64 0, .int .i64 0] 31)) := (Below.refl _ _).alloc (Nat.le_refl _) _
  have G3 := Lib.hid (below_trans B3.out g3)
  have H3 := Lib.hid (h3.kept g3)
  have HH := Lib.hid (Holds.new w3 #[.int .i64 6, .slice an ln cn, .slice ah lh ch, .int .i64 0, .int .i64 0, .int .i64 0, .int .i64 0, .int .i64 0, .int .i64 0, .int .i64 0, .int .i64 0, .int .i64 0, .int .i64 0, .int .i64 0, .int .i64 0] 31)
  have LT := Lib.hid (show w3.heap.size < (w3.alloc (.cells #[.int .i64 6, .slice an ln cn, .slice ah lh ch, .int .i64 0, .int .i64 0, .int .i64 0, .int .i64 0, .int .i64 0, .int .i64 0, .int .i64 0, .int .i64 0, .int .i64 0, .int .i64 0, .int .i64 0, .int .i64 0] 31)).heap.size by simp)
  clear b3 h3 g3
  go_wp2_with fail
  refine (E4.out _).mono ?_
  rintro er w4 ⟨rfl, b4⟩
  have hw4 := Lib.hid (HH.out.kept LT.out b4)
  have H4 := Lib.hid (H3.out.kept b4); have B4 := Lib.hid (below_trans G3.out b4); have L4 := Lib.hid (Nat.lt_of_lt_of_le LT.out b4.size)
  clear b4
  have c0 : w4.cell? ⟨w3.heap.size, 0, none⟩ = some (.int .i64 6) := hw4.out 0 _ rfl
  have c1 : w4.cell? ⟨w3.heap.size, 1, none⟩ = some (.slice an ln cn) := hw4.out 1 _ rfl
  have c2 : w4.cell? ⟨w3.heap.size, 2, none⟩ = some (.slice ah lh ch) := hw4.out 2 _ rfl
  have c3 : w4.cell? ⟨w3.heap.size, 3, none⟩ = some (.int .i64 0) := hw4.out 3 _ rfl
  have c4 : w4.cell? ⟨w3.heap.size, 4, none⟩ = some (.int .i64 0) := hw4.out 4 _ rfl
  have c5 : w4.cell? ⟨w3.heap.size, 5, none⟩ = some (.int .i64 0) := hw4.out 5 _ rfl
  have c6 : w4.cell? ⟨w3.heap.size, 6, none⟩ = some (.int .i64 0) := hw4.out 6 _ rfl
  have c7 : w4.cell? ⟨w3.heap.size, 7, none⟩ = some (.int .i64 0) := hw4.out 7 _ rfl
  have c8 : w4.cell? ⟨w3.heap.size, 8, none⟩ = some (.int .i64 0) := hw4.out 8 _ rfl
  have c9 : w4.cell? ⟨w3.heap.size, 9, none⟩ = some (.int .i64 0) := hw4.out 9 _ rfl
  have c10 : w4.cell? ⟨w3.heap.size, 10, none⟩ = some (.int .i64 0) := hw4.out 10 _ rfl
  have c11 : w4.cell? ⟨w3.heap.size, 11, none⟩ = some (.int .i64 0) := hw4.out 11 _ rfl
  have c12 : w4.cell? ⟨w3.heap.size, 12, none⟩ = some (.int .i64 0) := hw4.out 12 _ rfl
  have c13 : w4.cell? ⟨w3.heap.size, 13, none⟩ = some (.int .i64 0) := hw4.out 13 _ rfl
  have c14 : w4.cell? ⟨w3.heap.size, 14, none⟩ = some (.int .i64 0) := hw4.out 14 _ rfl
  go_wp2_with fail
  refine (E5.out _ _ _ H4.out).mono ?_
  rintro er w5 ⟨rfl, b5⟩
  have hw5 := Lib.hid (hw4.out.kept L4.out b5)
  have H5 := Lib.hid (H4.out.kept b5); have B5 := Lib.hid (below_trans B4.out b5)
  clear b5
  clear c0 c1 c2 c3 c4 c5 c6 c7 c8 c9 c10 c11 c12 c13 c14
  have c0 : w5.cell? ⟨w3.heap.size, 0, none⟩ = some (.int .i64 6) := hw5.out 0 _ rfl
  have c1 : w5.cell? ⟨w3.heap.size, 1, none⟩ = some (.slice an ln cn) := hw5.out 1 _ rfl
  have c2 : w5.cell? ⟨w3.heap.size, 2, none⟩ = some (.slice ah lh ch) := hw5.out 2 _ rfl
  have c3 : w5.cell? ⟨w3.heap.size, 3, none⟩ = some (.int .i64 0) := hw5.out 3 _ rfl
  have c4 : w5.cell? ⟨w3.heap.size, 4, none⟩ = some (.int .i64 0) := hw5.out 4 _ rfl
  have c5 : w5.cell? ⟨w3.heap.size, 5, none⟩ = some (.int .i64 0) := hw5.out 5 _ rfl
  have c6 : w5.cell? ⟨w3.heap.size, 6, none⟩ = some (.int .i64 0) := hw5.out 6 _ rfl
  have c7 : w5.cell? ⟨w3.heap.size, 7, none⟩ = some (.int .i64 0) := hw5.out 7 _ rfl
  have c8 : w5.cell? ⟨w3.heap.size, 8, none⟩ = some (.int .i64 0) := hw5.out 8 _ rfl
  have c9 : w5.cell? ⟨w3.heap.size, 9, none⟩ = some (.int .i64 0) := hw5.out 9 _ rfl
  have c10 : w5.cell? ⟨w3.heap.size, 10, none⟩ = some (.int .i64 0) := hw5.out 10 _ rfl
  have c11 : w5.cell? ⟨w3.heap.size, 11, none⟩ = some (.int .i64 0) := hw5.out 11 _ rfl
  have c12 : w5.cell? ⟨w3.heap.size, 12, none⟩ = some (.int .i64 0) := hw5.out 12 _ rfl
  have c13 : w5.cell? ⟨w3.heap.size, 13, none⟩ = some (.int .i64 0) := hw5.out 13 _ rfl
  have c14 : w5.cell? ⟨w3.heap.size, 14, none⟩ = some (.int .i64 0) := hw5.out 14 _ rfl
  go_wp2_with fail
  refine (E6.out _ _ _ H5.out).mono ?_
  rintro er w6 ⟨rfl, b6⟩
  have B6 := Lib.hid (below_trans B5.out b6)
  clear b6
  clear c0 c1 c2 c3 c4 c5 c6 c7 c8 c9 c10 c11 c12 c13 c14
  go_wp2_with fail
  go_ret
  exact ⟨rfl, B6.out⟩

end Go.Proofs.Ytpnfhcpapjomnaa
