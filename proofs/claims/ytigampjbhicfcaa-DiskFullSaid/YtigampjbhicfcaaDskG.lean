/- The statements' walks that stand on one disk's state: a disk that is none; a replacement. -/
import Derived.Test.YtigampjbhicfcaaDskF
namespace Go.Proofs.Ytigampjbhicfcaa
open Go.RowKit
set_option linter.unusedVariables false

set_option maxHeartbeats 1000000 in
theorem DiskNone_walk (k n : Int) (s : ByteArray) (w : World) : Calls Try.prog 6 #[.agg #[.int .i64 k, .int .i64 n, .string s]] w (RetBelow (.bool true) w) := by
  have a := Lib.hid dAwake_any
  have q1 := Lib.hid (fun w => Sync_nil w); have q2 := Lib.hid (fun w => Crash_nil n w); have q3 := Lib.hid (fun w => Write_nil s w); have q4 := Lib.hid (fun w => Replace_nil s w)
  have q5 := Lib.hid (fun w => Content_nil w); have q6 := Lib.hid (fun w => Waiting_nil w); have q7 := Lib.hid (fun w => Free_nil w)
  go_enter Try.func6, Try.ntmps6
  go_wp2_with (first
    | (go_at_call 13; refine (q1.out _).mono ?_; rintro e w' ⟨rfl, rfl⟩)
    | (go_at_call 15; refine (q2.out _).mono ?_; rintro e w' ⟨rfl, rfl⟩)
    | (go_at_call 12; refine (q3.out _).mono ?_; rintro e w' ⟨rfl, rfl⟩)
    | (go_at_call 14; refine (q4.out _).mono ?_; rintro e w' ⟨rfl, rfl⟩)
    | (go_at_call 10; refine (q5.out _).mono ?_; rintro e w' ⟨rfl, rfl⟩)
    | (go_at_call 16; refine (q6.out _).mono ?_; rintro e w' ⟨rfl, rfl⟩)
    | (go_at_call 17; refine (q7.out _).mono ?_; rintro e w' ⟨rfl, rfl⟩)
    | fail)
  refine (a.out _).mono ?_
  rintro e w1 ⟨rfl, g⟩
  have G := Lib.hid (((Below.refl w.heap.size w).alloc (Nat.le_refl _) (.cells #[.int .i64 k, .int .i64 n, .string s] 29)).trans (g.mono (by simp))); clear g
  go_wp2_with fail
  go_ret
  exact ⟨rfl, G.out⟩

set_option maxHeartbeats 1000000 in
theorem DiskWhole_big (s t : ByteArray) (k : Int) (w : World) (h : 5000 < s.size ∨ 5000 < t.size) : Calls Try.prog 4 #[.string s, .string t, .int .i64 k] w (RetBelow (.bool true) w) := by
  have a := Lib.hid dAwake_any
  by_cases h1 : 5000 < s.size
  · clear h
    go_enter Try.func4, Try.ntmps4
    go_wp2_with fail
    refine (a.out _).mono ?_
    rintro e w1 ⟨rfl, g⟩
    have G := Lib.hid g; clear g
    go_wp2_with fail
    go_ret
    exact ⟨rfl, G.out⟩
  · have h2 : 5000 < t.size := h.resolve_left h1
    clear h
    go_enter Try.func4, Try.ntmps4
    go_wp2_with fail
    refine (a.out _).mono ?_
    rintro e w1 ⟨rfl, g⟩
    have G := Lib.hid g; clear g
    go_wp2_with fail
    go_ret
    exact ⟨rfl, G.out⟩

theorem arr_list (s : ByteArray) : (⟨s.data.toList.toArray⟩ : ByteArray) = s := by cases s; rfl
theorem whole_write (s : ByteArray) (h : s.size ≤ 5000) : ((Dk.new 20000).write s) = ⟨20000, [], s.data.toList, false⟩ := by
  have hf : (Dk.new 20000).free = 20000 := by decide +kernel
  unfold Dk.write
  rw [hf, if_neg (by omega)]
  rfl
theorem whole_sync (l : List UInt8) : (⟨20000, [], l, false⟩ : Dk).sync = ⟨20000, l, l, false⟩ := by
  unfold Dk.sync Dk.settle
  simp only [List.take_length]
theorem whole_replace (l : List UInt8) (t : ByteArray) (h : t.size ≤ 5000) : (⟨20000, l, l, false⟩ : Dk).replace t = ⟨20000, l, t.data.toList, true⟩ := by
  unfold Dk.replace
  rw [if_neg (by simp only; omega)]
  rfl
theorem whole_keep (l m : List UInt8) (k : Int) (h : (m.length : Int) ≤ k) : (⟨20000, l, m, true⟩ : Dk).crash k = ⟨20000, m, m, false⟩ := by
  have hw : (⟨20000, l, m, true⟩ : Dk).waiting = m.length := rfl
  have hk : (⟨20000, l, m, true⟩ : Dk).keep k = m.length := by unfold Dk.keep; rw [hw]; omega
  unfold Dk.crash
  rw [hk, hw, if_neg (by omega)]
  unfold Dk.settle
  simp only [Nat.sub_self, Nat.zero_add, List.take_length]
theorem whole_lost (l m : List UInt8) (k : Int) (h : k < (m.length : Int)) (h0 : 0 < m.length) : (⟨20000, l, m, true⟩ : Dk).crash k = ⟨20000, l, l, false⟩ := by
  have hw : (⟨20000, l, m, true⟩ : Dk).waiting = m.length := rfl
  have hk : (⟨20000, l, m, true⟩ : Dk).keep k < m.length := by unfold Dk.keep; rw [hw]; omega
  unfold Dk.crash
  rw [if_pos ⟨rfl, by rw [hw]; exact hk⟩]
  rfl
theorem whole_none (l : List UInt8) (k : Int) : (⟨20000, l, [], true⟩ : Dk).crash k = ⟨20000, [], [], false⟩ := by
  have hw : (⟨20000, l, [], true⟩ : Dk).waiting = 0 := rfl
  have hk : (⟨20000, l, [], true⟩ : Dk).keep k = 0 := by unfold Dk.keep; rw [hw]; omega
  unfold Dk.crash
  rw [hk, hw, if_neg (by omega)]
  rfl

set_option maxHeartbeats 1000000 in
/-- Up to the replacement's end; then each of the three ways. -/
theorem DiskWhole_way (s t r : ByteArray) (k : Int) (w : World) (hs : s.size ≤ 5000) (ht : t.size ≤ 5000) (hr : (⟨20000, s.data.toList, t.data.toList, true⟩ : Dk).crash k = ⟨20000, r.data.toList, r.data.toList, false⟩)
    (ways : ((t.size : Int) ≤ k ∧ r = t) ∨ (k < (t.size : Int) ∧ r = s) ∨ (k < (t.size : Int) ∧ r = t ∧ t = ⟨#[]⟩)) :
    Calls Try.prog 4 #[.string s, .string t, .int .i64 k] w (RetBelow (.bool true) w) := by
  have a := Lib.hid dAwake_any
  have c1 := New_any (F := fun k => k < w.heap.size) 20000 w (fun _ h => h)
  have hR := Lib.hid hr; have WS := Lib.hid ways
  clear hr ways
  go_enter Try.func4, Try.ntmps4
  go_wp2_with fail
  refine c1.mono ?_
  rintro e w1 ⟨rfl, h1, g1⟩
  have G1 := Lib.hid g1; clear g1 c1
  have c := Write_any h1 s
  rw [whole_write s hs, if_neg (by simp [Dk.new, Dk.free]; omega)] at c; clear h1
  have c' := Lib.hid c; clear c
  go_wp2_with fail
  refine c'.out.mono ?_
  rintro e w2 ⟨rfl, h2, g⟩
  have G2 := Lib.hid (G1.out.trans (g.below fun _ h => h)); clear g c' G1
  have c := Sync_any h2
  rw [whole_sync] at c; clear h2
  have c' := Lib.hid c; clear c
  go_wp2_with fail
  refine c'.out.mono ?_
  rintro e w3 ⟨rfl, h3, g⟩
  have G3 := Lib.hid (G2.out.trans (g.below fun _ h => h)); clear g c' G2
  have c := Replace_any h3 t
  rw [whole_replace _ t ht, if_neg (by simp only; omega)] at c; clear h3
  have c' := Lib.hid c; clear c
  go_wp2_with fail
  refine c'.out.mono ?_
  rintro e w4 ⟨rfl, h4, g⟩
  have G4 := Lib.hid (G3.out.trans (g.below fun _ h => h)); clear g c' G3
  have c := Content_any h4
  simp only [arr_list] at c
  have c' := Lib.hid c; have H4 := Lib.hid h4; clear c h4
  go_wp2_with fail
  refine c'.out.mono ?_
  rintro e w5 ⟨rfl, rfl⟩
  clear c'
  have c := Crash_any H4.out k
  rw [hR.out] at c; clear H4
  have c' := Lib.hid c; clear c
  go_wp2_with fail
  refine c'.out.mono ?_
  rintro e w5 ⟨rfl, h5, g⟩
  have G5 := Lib.hid (G4.out.trans (g.below fun _ h => h)); clear g c' G4
  have c := Content_any h5
  simp only [arr_list] at c
  have c' := Lib.hid c; have H5 := Lib.hid h5; clear c h5
  go_wp2_with fail
  refine c'.out.mono ?_
  rintro e w6 ⟨rfl, rfl⟩
  clear c'
  have c' := Lib.hid (Waiting_any H5.out)
  have hw0 : (⟨20000, r.data.toList, r.data.toList, false⟩ : Dk).waiting = 0 := by simp [Dk.waiting]
  rw [hw0] at c'; clear hw0 H5
  have fin : ∀ n, Calls Try.prog 9 #[] (w5.drewN n) fun e w' => e = .returned (.bool true) ∧ Below w.heap.size w w' := fun n => (a.out _).mono fun _ _ h => ⟨h.1, (below_drewN G5.out n).trans (h.2.mono G5.out.size)⟩
  have F := Lib.hid fin; clear fin a
  rcases WS.out with ⟨hk, rfl⟩ | ⟨hk, rfl⟩ | ⟨hk, rfl, rfl⟩
  · clear WS hR G5
    go_wp2_with fail
    refine c'.out.mono ?_
    rintro e w6 ⟨rfl, n, rfl⟩
    go_wp2_with fail
    refine (F.out n).mono ?_
    rintro e w7 ⟨rfl, g⟩
    have G := Lib.hid g; clear g
    go_wp2_with fail
    go_ret
    exact ⟨rfl, G.out⟩
  · clear WS hR G5
    go_wp2_with fail
    refine c'.out.mono ?_
    rintro e w6 ⟨rfl, n, rfl⟩
    go_wp2_with fail
    refine (F.out n).mono ?_
    rintro e w7 ⟨rfl, g⟩
    have G := Lib.hid g; clear g
    go_wp2_with fail
    go_ret
    exact ⟨rfl, G.out⟩
  · clear WS hR G5
    have hk : k < 0 := hk
    rcases he : s.toList.isEmpty with _ | _
    · go_wp2_with fail
      refine c'.out.mono ?_
      rintro e w6 ⟨rfl, n, rfl⟩
      go_wp2_with fail
      refine (F.out n).mono ?_
      rintro e w7 ⟨rfl, g⟩
      have G := Lib.hid g; clear g
      go_wp2_with fail
      go_ret
      exact ⟨rfl, G.out⟩
    · go_wp2_with fail
      refine c'.out.mono ?_
      rintro e w6 ⟨rfl, n, rfl⟩
      go_wp2_with fail
      refine (F.out n).mono ?_
      rintro e w7 ⟨rfl, g⟩
      have G := Lib.hid g; clear g
      go_wp2_with fail
      go_ret
      exact ⟨rfl, G.out⟩

theorem DiskWhole_walk (s t : ByteArray) (k : Int) (w : World) : Calls Try.prog 4 #[.string s, .string t, .int .i64 k] w (RetBelow (.bool true) w) := by
  by_cases hb : 5000 < s.size ∨ 5000 < t.size
  · exact DiskWhole_big s t k w hb
  have hs : s.size ≤ 5000 := by omega
  have ht : t.size ≤ 5000 := by omega
  have hl : t.data.toList.length = t.size := Dk.len_data t
  by_cases hk : (t.size : Int) ≤ k
  · exact DiskWhole_way s t t k w hs ht (whole_keep _ _ k (by omega)) (.inl ⟨hk, rfl⟩)
  by_cases h0 : 0 < t.size
  · exact DiskWhole_way s t s k w hs ht (whole_lost _ _ k (by omega) (by omega)) (.inr (.inl ⟨by omega, rfl⟩))
  · have ht0 : t = ⟨#[]⟩ := by
      obtain ⟨d⟩ := t
      have : d.size = 0 := by
        have h : (ByteArray.mk d).size = d.size := rfl
        omega
      rw [Array.eq_empty_of_size_eq_zero this]
    subst ht0
    exact DiskWhole_way _ _ ⟨#[]⟩ k w hs ht (whole_none _ k) (.inr (.inr ⟨by omega, rfl, rfl⟩))

end Go.Proofs.Ytigampjbhicfcaa
