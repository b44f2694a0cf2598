/- The statements' walks that go round over the deeds. -/
import Derived.Test.YtigampjbhicfcaaDskI
namespace Go.Proofs.Ytigampjbhicfcaa
open Go.RowKit
set_option linter.unusedVariables false

namespace Dk
/-- What was safe stays, where nothing is replaced. -/
theorem deed_safe {d : Dk} (h : d.Good) (hr : d.repl = false) (k n : Int) (s : ByteArray) (hk : k ≠ 2) : d.S <+: (d.deed k n s).S ∧ (d.deed k n s).repl = false := by
  unfold Dk.deed
  split
  · unfold Dk.write
    split
    · exact ⟨List.prefix_refl _, hr⟩
    · exact ⟨List.prefix_refl _, hr⟩
  · split
    · refine ⟨?_, rfl⟩
      simp only [Dk.sync, Dk.settle, List.take_length]
      exact h.pre hr
    · unfold Dk.crash
      rw [if_neg (by rw [hr]; simp)]
      refine ⟨?_, rfl⟩
      have hp := h.pre hr
      have hl := hp.length_le
      have hw : d.waiting = d.A.length - d.S.length := by unfold Dk.waiting; rw [hr]; rfl
      simp only [Dk.settle]
      rw [hw]
      refine List.prefix_of_prefix_length_le hp (List.take_prefix _ _) ?_
      rw [List.length_take]
      omega
end Dk

theorem At.sub {w : World} {F G : Nat → Prop} {D : Nat} {d : Dk} (h : At w F D d) (hG : ∀ k, G k → F k) : At w G D d :=
  h.mono (G := fun _ => False) (Keeps.refl _ _) (fun _ hk => hk.elim) G fun k hk => .inl (hG k hk)
theorem At.good {w : World} {F : Nat → Prop} {D : Nat} {d : Dk} (h : At w F D d) : d.Good := by
  obtain ⟨sa, sc, aa, ac, _, _, _, _, _, _, _, _, hg⟩ := h
  exact hg

/-- The plain answer's disk, laid. -/
theorem nul_enter {w : World} {F : Nat → Prop} {D : Nat} {d : Dk} (h : At w F D d) : At (w.alloc (.cells #[.int .i64 0, .string ⟨#[]⟩, .string ⟨#[]⟩, .bool false] 33)) (fun j => F j ∨ j = w.heap.size) D d ∧ Nul (w.alloc (.cells #[.int .i64 0, .string ⟨#[]⟩, .string ⟨#[]⟩, .bool false] 33)) w.heap.size false :=
  ⟨h.mono (G := fun _ => False) (Keeps.of_below ((Below.refl w.heap.size w).alloc (Nat.le_refl _) _) fun _ hk => hk.1) (fun _ hk => hk.elim) _ fun k hk => hk.imp id fun e => by subst e; simp,
    ⟨World.cell?_alloc_at (w := w) _ _ _ 0 rfl, World.cell?_alloc_at (w := w) _ _ _ 1 rfl, World.cell?_alloc_at (w := w) _ _ _ 2 rfl, World.cell?_alloc_at (w := w) _ _ _ 3 rfl, World.frozen?_alloc_at (w := w) _ _ _ 1 rfl, World.frozen?_alloc_at (w := w) _ _ _ 2 rfl, World.frozen?_alloc_at (w := w) _ _ _ 3 rfl⟩⟩

/-- A deed with a fresh plain disk, in a round. -/
theorem Do_round {w : World} {F : Nat → Prop} {D : Nat} {d : Dk} (h : At w F D d) (k n : Int) (s : ByteArray) :
    Calls Try.prog 11 #[.pointer (some ⟨D, 0, none⟩), .pointer (some ⟨w.heap.size, 0, none⟩), .agg #[.int .i64 k, .int .i64 n, .string s]] (w.alloc (.cells #[.int .i64 0, .string ⟨#[]⟩, .string ⟨#[]⟩, .bool false] 33)) fun e w' => SomeInt e ∧ At w' F D (d.deed k n s) ∧ Keeps F w w' := by
  obtain ⟨h1, x⟩ := nul_enter h
  refine (Do_any h1 x (.inr rfl) k n s).mono fun e w' ⟨he, ha, hk⟩ => ⟨he, ha.sub fun k q => .inl q, ((Keeps.refl F w).alloc h.base _).trans (hk.mono fun j hj => ⟨.inl hj, fun e => by have := h.base j hj; omega⟩)⟩

/-- A deed read whole. -/
theorem deed_load {w : World} {ao : Option Addr} {len cap bb oo : Nat} {K N : Nat → Int} {S : Nat → ByteArray} (h : Deeds w ao len cap bb oo K N S) (i : Nat) (hi : i < len) :
    w.rangeAt bb (oo + i * 3) [.int .i64 (K i), .int .i64 (N i), .string (S i)] := by
  intro j v hj
  match j, hj with
  | 0, hj => rw [← hj]; exact h.at0 i hi
  | 1, hj => rw [← hj]; exact h.at1 i hi
  | 2, hj => rw [← hj]; exact h.at2 i hi

theorem deed_len : (Try.prog.info? 29).map (·.size) = some 3 := by kernel_rfl

/-- The first bytes of a text, cut off. -/
theorem text_cut (l m : List UInt8) (h : l <+: m) (w : World) : (Instr.slice 9 (.string ⟨m.toArray⟩) none (some (.int .i64 (l.length : Int))) none).run Try.prog w = .ok (.string ⟨l.toArray⟩) w := by
  have hz : (⟨m.toArray⟩ : ByteArray).size = m.length := by simp [ByteArray.size]
  rw [run_slice_string_to_if w 9 _ .i64 _ Try.underlying9, if_pos ⟨by omega, by rw [hz]; have := h.length_le; omega⟩]
  have e : ((l.length : Nat) : Int).toNat = l.length := by omega
  rw [e]
  obtain ⟨r, rfl⟩ := h
  congr 2
  apply ByteArray.ext
  simp only [ByteArray.data_extract]
  apply Array.ext'
  simp

set_option maxHeartbeats 1000000 in
theorem DiskSafe_walk {w : World} {ao : Option Addr} {len cap bb oo : Nat} {K N : Nat → Int} {S : Nat → ByteArray} (h : Deeds w ao len cap bb oo K N S) :
    Calls Try.prog 3 #[.slice ao len cap] w (RetBelow (.bool true) w) := by
  have a := Lib.hid dAwake_any
  have c1 := New_any (F := fun k => k < w.heap.size) 1048576 w (fun _ h => h)
  have hs := h.small
  have H := Lib.hid h
  have C1 := Lib.hid c1
  clear h c1
  go_enter Try.func3, Try.ntmps3
  go_wp2_with fail
  refine C1.out.mono ?_
  rintro e w1 ⟨rfl, h1, g1⟩
  have cf := Lib.hid (few_any (H.out.kept g1))
  have H1 := Lib.hid h1; have G1 := Lib.hid g1
  clear h1 g1 C1
  go_wp2_with fail
  refine cf.out.mono ?_
  rintro e w2 ⟨⟨b, rfl⟩, rfl⟩
  clear cf
  rcases b with _ | _
  · go_wp2_with fail
    refine (a.out _).mono ?_
    rintro e w2 ⟨rfl, g⟩
    have G2 := Lib.hid (G1.out.trans (g.mono G1.out.size)); clear g
    go_wp2_with fail
    go_ret
    exact ⟨rfl, G2.out⟩
  · go_wp2_with fail
    go_loopw [4] (fun i wr => ∃ (k : Nat) (d : Dk), k ≤ len ∧ i = .int .i64 k ∧ Hid (At wr (fun k => k < w.heap.size) w.heap.size d ∧ d.repl = false ∧ Below w.heap.size w wr)) (fun i _ => len - (intOf i).toNat)
    case atStart => exact ⟨0, Dk.new 1048576, Nat.zero_le _, rfl, H1.out, rfl, G1.out⟩
    case round =>
      obtain ⟨k, d, hk, rfl, hd⟩ := hrel
      have HW := Lib.hid (H.out.kept hd.out.2.2)
      have cC := Lib.hid (Content_any hd.out.1)
      by_cases hlt : k < len ∧ k < 100
      · obtain ⟨hlt, h100⟩ := hlt
        have hidx := H.out.idx k hlt
        have hcell := HW.out.at0 k hlt
        by_cases hk2 : K k = 2
        · rw [hk2] at hcell
          go_wp2_with fail
          refine cC.out.mono ?_
          rintro e w2 ⟨rfl, rfl⟩
          go_wp2_with fail
          go_roundw
          case rel => exact ⟨k + 1, d, by omega, by go_num, hd⟩
          case measure => simp [intOf]; omega
        · have hk2' : (K k == 2) = false := by simpa using hk2
          obtain ⟨hpre, hrep⟩ := Dk.deed_safe hd.out.1.good hd.out.2.1 (K k) (N k) (S k) hk2
          have hdo := Do_round hd.out.1 (K k) (N k) (S k)
          have hrow := World.rangeAt_alloc (deed_load HW.out k hlt) (.cells #[.int .i64 0, .string ⟨#[]⟩, .string ⟨#[]⟩, .bool false] 33)
          have hcut := fun w => text_cut d.S (d.deed (K k) (N k) (S k)).S hpre w
          obtain ⟨d', hd'⟩ : ∃ d', d.deed (K k) (N k) (S k) = d' := ⟨_, rfl⟩
          rw [hd'] at hpre hrep hdo hcut
          have hle : (⟨d.S.toArray⟩ : ByteArray).size ≤ (⟨d'.S.toArray⟩ : ByteArray).size := by simpa [ByteArray.size] using hpre.length_le
          have hsz : (⟨d.S.toArray⟩ : ByteArray).size = d.S.length := by simp [ByteArray.size]
          rw [← hsz] at hcut
          obtain ⟨p1, hp1⟩ : ∃ p1, (⟨d.S.toArray⟩ : ByteArray) = p1 := ⟨_, rfl⟩
          obtain ⟨p2, hp2⟩ : ∃ p2, (⟨d'.S.toArray⟩ : ByteArray) = p2 := ⟨_, rfl⟩
          rw [hp1] at hcut hle
          rw [hp2] at hcut hle
          have cP := cC.out
          rw [hp1] at cP
          have CP := Lib.hid cP; have HP2 := Lib.hid hp2
          clear hp1 hp2 cP cC
          have HD := Lib.hid hdo; have HR := Lib.hid hrow; have HP := Lib.hid hrep
          clear hdo hrow hrep hpre hd' hsz HW
          go_wp2_with fail
          refine CP.out.mono ?_
          rintro e w2 ⟨rfl, rfl⟩
          go_wp2_with (refine wpList_load_mid rfl 29 _ rfl bb (oo + k * 3) rfl _ _ HR.out Try.underlying29 rfl deed_len ?_)
          refine HD.out.mono ?_
          rintro e w3 ⟨⟨v, rfl⟩, h3, g3⟩
          have c3' := Content_any h3
          rw [HP2.out] at c3'
          have c3 := Lib.hid c3'
          have R3 : Hid (At w3 (fun k => k < w.heap.size) w.heap.size d' ∧ d'.repl = false ∧ Below w.heap.size w w3) := Lib.hid ⟨h3, HP.out, hd.out.2.2.trans (g3.below fun _ h => h)⟩
          clear h3 g3 c3' HD HR HP2
          go_wp2_with fail
          refine c3.out.mono ?_
          rintro e w4 ⟨rfl, rfl⟩
          go_wp2_with fail
          go_roundw
          case rel => exact ⟨k + 1, d', by omega, by go_num, R3⟩
          case measure => simp [intOf]; omega
      · clear cC
        rcases Nat.lt_or_ge k len with hlt' | hge
        · have h100 : 100 ≤ k := by omega
          go_wp2_with fail
          refine (a.out _).mono ?_
          rintro e w2 ⟨rfl, g⟩
          have G2 := Lib.hid (hd.out.2.2.trans (g.mono hd.out.2.2.size)); clear g
          go_wp2_with fail
          go_ret
          exact ⟨rfl, G2.out⟩
        · go_wp2_with fail
          refine (a.out _).mono ?_
          rintro e w2 ⟨rfl, g⟩
          have G2 := Lib.hid (hd.out.2.2.trans (g.mono hd.out.2.2.size)); clear g
          go_wp2_with fail
          go_ret
          exact ⟨rfl, G2.out⟩

end Go.Proofs.Ytigampjbhicfcaa
