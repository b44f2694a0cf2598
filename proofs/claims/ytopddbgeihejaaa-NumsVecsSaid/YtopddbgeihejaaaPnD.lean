/- The landed numbers: PutFix, GetFix; what they are held to. -/
import Derived.Test.YtopddbgeihejaaaPnC
namespace Go.Proofs.Ytopddbgeihejaaa
open Go.RowKit
set_option linter.unusedVariables false

/-- The first j of a row of eight parts are set. -/
def Nu.slot (x : Nat) (j i : Nat) : Value := if i < j then .string ⟨#[(Nu.fixL x).getD i 0]⟩ else .string ⟨#[]⟩
def Nu.slots (x j : Nat) : Array Value := #[Nu.slot x j 0, Nu.slot x j 1, Nu.slot x j 2, Nu.slot x j 3, Nu.slot x j 4, Nu.slot x j 5, Nu.slot x j 6, Nu.slot x j 7]
def Nu.parts (x : Nat) : List ByteArray := [⟨#[(Nu.fixL x).getD 0 0]⟩, ⟨#[(Nu.fixL x).getD 1 0]⟩, ⟨#[(Nu.fixL x).getD 2 0]⟩, ⟨#[(Nu.fixL x).getD 3 0]⟩, ⟨#[(Nu.fixL x).getD 4 0]⟩, ⟨#[(Nu.fixL x).getD 5 0]⟩, ⟨#[(Nu.fixL x).getD 6 0]⟩, ⟨#[(Nu.fixL x).getD 7 0]⟩]
theorem parts_cat (x : Nat) : Nu.cat (Nu.parts x) = Nu.fix x := by
  apply ba_ext
  rw [cat_flat]
  rfl
theorem slots_set (x j : Nat) (h : j < 8) : (Nu.slots x j).setIfInBounds j (.string ⟨#[(Nu.fixL x).getD j 0]⟩) = Nu.slots x (j + 1) := by
  have e : j = 0 ∨ j = 1 ∨ j = 2 ∨ j = 3 ∨ j = 4 ∨ j = 5 ∨ j = 6 ∨ j = 7 := by omega
  rcases e with rfl | rfl | rfl | rfl | rfl | rfl | rfl | rfl <;> rfl
theorem slots_at (x j : Nat) (h : j < 8) : (Nu.slots x j)[j]? = some (.string ⟨#[]⟩) := by
  have e : j = 0 ∨ j = 1 ∨ j = 2 ∨ j = 3 ∨ j = 4 ∨ j = 5 ∨ j = 6 ∨ j = 7 := by omega
  rcases e with rfl | rfl | rfl | rfl | rfl | rfl | rfl | rfl <;> rfl
theorem slots_part (x : Nat) (j : Nat) (p : ByteArray) (h : (Nu.parts x)[j]? = some p) : (Nu.slots x 8)[j]? = some (.string p) := by
  rcases j with _ | _ | _ | _ | _ | _ | _ | _ | j
  all_goals (simp [Nu.parts] at h)
  all_goals (subst h; rfl)

/-- A row of parts lies in a block that was made. -/
def PartsAt (b : Nat) (x j : Nat) (w : World) : Prop := w.heap[b]? = some (.cells (Nu.slots x j) 9 (0, 0))
theorem PartsAt.lt {b x j : Nat} {w : World} (h : PartsAt b x j w) : b < w.heap.size := lt_of_block h
theorem PartsAt.keep {b x j : Nat} {w w' : World} (h : PartsAt b x j w) (g : Below w.heap.size w w') : PartsAt b x j w' := (g.block _ h.lt).trans h
theorem PartsAt.set {b x j : Nat} {w : World} (h : PartsAt b x j w) (hj : j < 8) : PartsAt b x (j + 1) (w.setCell ⟨b, j, none⟩ (.string ⟨#[(Nu.fixL x).getD j 0]⟩)) := by
  have := heap_setCell_same _ b j _ _ (.string ⟨#[(Nu.fixL x).getD j 0]⟩) h
  rw [slots_set x j hj] at this
  exact this

theorem fix_wrap (x : Nat) (j : Int) (h0 : 0 ≤ j) (h : j < 8) : wrap64 ((x : Int) / 2 ^ (8 * j).toNat) % 256 = (((Nu.fixL x).getD j.toNat 0).toNat : Int) := by
  rw [← fix_byte x j h0 h]
  unfold wrap64
  omega

theorem str_info : (Try.prog.info? 9).map (fun i => (i.zero, i.size, i.bytes)) = some (some (.string ⟨#[]⟩), 1, 16) := by kernel_rfl
theorem made_eight (x : Nat) : madeCells (Value.string ⟨#[]⟩).cells 8 = Nu.slots x 0 := by
  unfold madeCells
  rw [show Array.range 8 = #[0, 1, 2, 3, 4, 5, 6, 7] by decide]
  simp [Value.cells, Nu.slots, Nu.slot]
theorem make_eight (x : Nat) (w : World) : (Instr.makeSlice 50 (.int .i64 8) (.int .i64 8)).run Try.prog w = .ok (.slice (some ⟨w.heap.size, 0, none⟩) 8 8) (w.alloc (.cells (Nu.slots x 0) 9)) := by
  obtain ⟨i, hi, hz, hs, hb⟩ := info_parts str_info
  have h := run_make (P := Try.prog) w 50 9 i (.string ⟨#[]⟩) Try.underlying50 hi hz .i64 .i64 8 8 (by decide) (by decide) (by rw [hb]; decide) (by decide)
  rw [hs] at h
  rw [← made_eight x]
  exact h

set_option maxHeartbeats 1000000 in
theorem PutFix_any (x : Nat) (w : World) : Calls Try.prog 12 #[.int .u64 (x : Int)] w (RetBelow (.string (Nu.fix x)) w) := by
  obtain ⟨X, hX⟩ : ∃ X : Int, (x : Int) = X := ⟨_, rfl⟩
  rw [hX]
  have hmk := make_eight x w
  go_enter Try.func12, Try.ntmps12
  go_wp2_with fail
  go_loopw [8] (fun i wr => ∃ (j : Int), i = .int .i64 j ∧ 0 ≤ j ∧ j ≤ 8 ∧ Hid (PartsAt w.heap.size x j.toNat wr ∧ Below w.heap.size w wr)) (fun i _ => 8 - (intOf i).toNat)
  case atStart => exact ⟨0, rfl, by omega, by omega, by unfold PartsAt; exact Array.getElem?_push_size, (Below.refl _ _).alloc (Nat.le_refl _) _⟩
  case round =>
    obtain ⟨j, rfl, hj0, hj8, hd⟩ := hrel
    by_cases hlt : j < 8
    · have hv := fix_wrap x j hj0 hlt
      obtain ⟨b, hbb⟩ : ∃ b, (Nu.fixL x).getD j.toNat 0 = b := ⟨_, rfl⟩
      rw [hX, hbb] at hv
      have HV := Lib.hid hv; clear hv
      have HB := Lib.hid hbb; clear hbb
      go_wp2_with fail
      refine (single_any _ b HV.out _).mono ?_
      rintro e w1 ⟨rfl, b1⟩
      have p1 := hd.out.1.keep b1
      have B1 := Lib.hid (hd.out.2.trans (b1.mono hd.out.2.size))
      have hc0 : w1.cell? ⟨w.heap.size, j.toNat, none⟩ = some (.string ⟨#[]⟩) := by
        rw [cell_of_row _ _ _ _ _ _ p1]
        exact slots_at x j.toNat (by omega)
      have hf0 : w1.frozen? ⟨w.heap.size, j.toNat, none⟩ = false := by
        rw [frozen_of_row _ _ _ _ _ p1]
      have P1 := Lib.hid (p1.set (show j.toNat < 8 by omega))
      rw [HB.out] at P1
      clear b1 p1
      go_wp2_with fail
      go_roundw
      case rel => exact ⟨j + 1, rfl, by omega, by omega, by rw [show (j + 1).toNat = j.toNat + 1 by omega]; exact P1.out, B1.out.setCell (p := ⟨w.heap.size, j.toNat, none⟩) (Nat.le_refl _) _⟩
      case measure => simp [intOf]; omega
    · have h8 : j.toNat = 8 := by omega
      have hp := hd.out.1
      rw [h8] at hp
      have hjn := join_any w.heap.size 0 8 (Nu.parts x) wr (fun i p hi => by
        rw [Nat.zero_add, cell_of_row _ _ _ _ _ _ hp]
        exact slots_part x i p hi) hp.lt (by simp [Nu.parts]) (by simp [Nu.parts]) (by rw [parts_cat, Nu.fix_size]; decide)
      rw [parts_cat, show (Nu.parts x).length = 8 from rfl] at hjn
      have HJ := Lib.hid hjn
      obtain ⟨p, hpx⟩ : ∃ p, Nu.fix x = p := ⟨_, rfl⟩
      have HPX := Lib.hid hpx
      rw [hpx] at HJ
      clear hp hjn hpx h8
      go_wp2_with fail
      refine HJ.out.mono ?_
      rintro e w1 ⟨rfl, b1⟩
      have B1 := Lib.hid (hd.out.2.trans (b1.mono hd.out.2.size)); clear b1
      go_wp2_with fail
      go_ret
      exact ⟨congrArg (fun p => Ending.returned (.string p)) HPX.out.symm, B1.out⟩

/-- The first bytes, put together. -/
def Nu.fwd (s : ByteArray) : Nat → Nat
  | 0 => 0
  | r + 1 => Nu.fwd s r + Cr.bt s r * 256 ^ r
theorem fwd_lt (s : ByteArray) : ∀ r, Nu.fwd s r < 256 ^ r
  | 0 => by simp [Nu.fwd]
  | r + 1 => by
    have ih := fwd_lt s r
    have := Cr.bt_lt s r
    have h2 : Cr.bt s r * 256 ^ r ≤ 255 * 256 ^ r := Nat.mul_le_mul_right _ (by omega)
    rw [Nat.pow_succ]
    show Nu.fwd s r + _ < _
    omega
theorem fwd_all (s : ByteArray) : Nu.fwd s 8 = Nu.unfix s := by
  unfold Nu.unfix
  simp only [Nu.fwd, Nat.reducePow, Nat.zero_add, Nat.mul_one]
  omega

theorem byte_pow : ∀ k : Nat, k < 8 → (2 : Int) ^ (8 * k) = 256 ^ k ∧ (1 : Int) ≤ 256 ^ k ∧ (256 : Int) ^ k ≤ 72057594037927936 := by decide
/-- A byte ahead of those that were read. -/
theorem byte_bits {v j c : Int} (hj0 : 0 ≤ j) (hj : j < 8) (hv0 : 0 ≤ v) (hv : v < 256 ^ j.toNat) (hc0 : 0 ≤ c) (hc : c < 256) :
    bits .or .u64 v (c * 2 ^ (8 * j).toNat % 18446744073709551616) = v + c * 256 ^ j.toNat ∧ 0 ≤ v + c * 256 ^ j.toNat ∧ v + c * 256 ^ j.toNat < 18446744073709551616 := by
  have hp := byte_pow j.toNat (by omega)
  have e8 : (8 * j).toNat = 8 * j.toNat := by omega
  obtain ⟨i, hi⟩ : ∃ i, j.toNat = i := ⟨_, rfl⟩
  rw [e8]
  rw [hi] at hp hv ⊢
  have hx : c * 2 ^ (8 * i) % 2 ^ (8 * i) = 0 := Int.mul_emod_left _ _
  rw [hp.1] at hx ⊢
  have p1 := hp.2.1; have p2 := hp.2.2
  have hpn : (256 : Int) ^ i = 2 ^ (8 * i) := hp.1.symm
  clear hp
  have t1 : c * 256 ^ i ≤ 255 * 256 ^ i := Int.mul_le_mul_of_nonneg_right (by omega) (by omega)
  have t0 : 0 ≤ c * 256 ^ i := Int.mul_nonneg (by omega) (by omega)
  have w1 : c * 256 ^ i % 18446744073709551616 = c * 256 ^ i := by omega
  rw [w1]
  have hcomm : bits .or .u64 v (c * 256 ^ i) = bits .or .u64 (c * 256 ^ i) v := by simp only [bits, BitVec.or_comm]
  rw [hcomm, bits_join .u64 64 (by decide) (fun n h0 h1 => by rw [IntKind.wrap_u64]; omega) (8 * i) _ _ t0 (by rw [← hpn]; exact hx) (by omega) hv0 (by rw [← hpn]; exact hv) (by omega)]
  omega

set_option maxHeartbeats 1000000 in
theorem GetFix_any (s : ByteArray) (w : World) : Calls Try.prog 19 #[.string s] w fun e w' => e = .returned (Nu.ansF (Nu.getF s)) ∧ w = w' := by
  unfold Nu.getF
  obtain ⟨z, hz⟩ : ∃ z : Int, (s.size : Int) = z := ⟨_, rfl⟩
  by_cases h8 : s.size < 8
  · rw [if_pos h8]
    have hz8 : z < 8 := by omega
    clear h8
    go_enter Try.func19, Try.ntmps19
    go_wp2_with fail
    go_ret3
    exact ⟨rfl, rfl⟩
  · rw [if_neg h8]
    have hz8 : 8 ≤ z := by omega
    clear h8
    go_enter Try.func19, Try.ntmps19
    go_wp2_with fail
    go_loopw [5, 10] (fun x i wr => ∃ (v j : Int), x = .int .u64 v ∧ i = .int .i64 j ∧ 0 ≤ j ∧ j ≤ 8 ∧ Hid (v = (Nu.fwd s j.toNat : Nat)) ∧ wr = w) (fun _ i _ => 8 - (intOf i).toNat)
    case atStart => exact ⟨0, 0, rfl, rfl, by omega, by omega, rfl, rfl⟩
    case round =>
      obtain ⟨v, j, rfl, rfl, hj0, hj8, hd, rfl⟩ := hrel
      by_cases hlt : j < 8
      · have hi := fun w => index_at s j.toNat (by omega) w
        have hb := Cr.bt_lt s j.toNat
        have hc0 : (0 : Int) ≤ (Cr.bt s j.toNat : Int) := by omega
        have hc1 : (Cr.bt s j.toNat : Int) < 256 := by omega
        rw [show ((j.toNat : Nat) : Int) = j by omega] at hi
        have hlim := fwd_lt s j.toNat
        have hv0 : 0 ≤ v := by rw [hd.out]; omega
        have hv1 : v < 256 ^ j.toNat := by rw [hd.out]; have := Int.ofNat_lt.2 hlim; rwa [Int.natCast_pow] at this
        have hby := byte_bits hj0 hlt hv0 hv1 hc0 hc1
        have hn : ((Nu.fwd s (j + 1).toNat : Nat) : Int) = v + (Cr.bt s j.toNat : Int) * 256 ^ j.toNat := by
          rw [show (j + 1).toNat = j.toNat + 1 by omega]
          show ((Nu.fwd s j.toNat + Cr.bt s j.toNat * 256 ^ j.toNat : Nat) : Int) = _
          rw [hd.out, Int.natCast_add, Int.natCast_mul, Int.natCast_pow]
          rfl
        obtain ⟨c, hc⟩ : ∃ c : Int, (Cr.bt s j.toNat : Int) = c := ⟨_, rfl⟩
        rw [hc] at hi hc0 hc1 hby hn
        obtain ⟨t, ht⟩ : ∃ t, v + c * 256 ^ j.toNat = t := ⟨_, rfl⟩
        rw [ht] at hby hn
        have HN := Lib.hid hn; have HB := Lib.hid hby
        clear hb hc hlim hd hv1 ht hn hby
        go_wp2_with fail
        go_roundw
        case rel => exact ⟨t, j + 1, congrArg (Value.int .u64) HB.out.1, rfl, by omega, by omega, HN.out.symm, trivial⟩
        case measure => simp [intOf]; omega
      · have hv : Hid (v = ((Nu.unfix s : Nat) : Int)) := Lib.hid (by rw [hd.out, ← fwd_all, show j.toNat = 8 by omega])
        clear hd
        go_wp2_with fail
        go_ret3
        exact ⟨by rw [show Nu.ansF (Nu.unfix s, 8, 0) = .tuple #[.int .u64 ((Nu.unfix s : Nat) : Int), .int .i64 8, .int .i64 0] from rfl, ← hv.out]; rfl, rfl⟩

theorem theNC : NC := {
  put := fun n h0 h1 w => Put_any n.toNat n (Nat.le_refl _) h0 h1 w
  putVec := fun a h w => PutVec_any a h w
  putFix := fun x _ w => PutFix_any x w
  get := fun s w => below_same (Get_any s w)
  getVec := fun s w => GetVec_any s w
  getFix := fun s w => below_same (GetFix_any s w) }

end Go.Proofs.Ytopddbgeihejaaa
