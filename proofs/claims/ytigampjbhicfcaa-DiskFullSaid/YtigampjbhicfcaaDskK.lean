/- A disk never has more than its size: the statement's walk. -/
import Derived.Test.YtigampjbhicfcaaDskJ
namespace Go.Proofs.Ytigampjbhicfcaa
open Go.RowKit
set_option linter.unusedVariables false

theorem At.drewN {w : World} {F : Nat → Prop} {D : Nat} {d : Dk} (h : At w F D d) (n : Nat) : At (w.drewN n) F D d := h
theorem Waiting_at {w : World} {F : Nat → Prop} {D : Nat} {d : Dk} (h : At w F D d) : Calls Try.prog 16 #[.pointer (some ⟨D, 0, none⟩)] w (Gives (.int .i64 (d.waiting : Int)) F D d w) :=
  (Waiting_any h).mono fun e w' ⟨he, n, hw⟩ => ⟨he, hw ▸ h.drewN n, hw ▸ (Keeps.refl F w).drewN n⟩
theorem Free_at {w : World} {F : Nat → Prop} {D : Nat} {d : Dk} (h : At w F D d) : Calls Try.prog 17 #[.pointer (some ⟨D, 0, none⟩)] w (Gives (.int .i64 (d.free : Int)) F D d w) :=
  (Free_any h).mono fun e w' ⟨he, n, hw⟩ => ⟨he, hw ▸ h.drewN n, hw ▸ (Keeps.refl F w).drewN n⟩
theorem Dk.deed_size (d : Dk) (k n : Int) (s : ByteArray) : (d.deed k n s).size = d.size := by
  unfold Dk.deed
  split
  · unfold Dk.write; split <;> rfl
  · split
    · rfl
    · split
      · unfold Dk.replace; split <;> rfl
      · unfold Dk.crash; split <;> rfl
theorem Dk.write_size (d : Dk) (s : ByteArray) : (d.write s).size = d.size := by unfold Dk.write; split <;> rfl

/-- What a round carries on. -/
def Runs (w : World) (r : Nat) (d : Dk) (wr : World) : Prop := At wr (fun k => k < w.heap.size) w.heap.size d ∧ d.size = r ∧ Below w.heap.size w wr
theorem Runs.gives {w wr w' : World} {r : Nat} {d d' : Dk} (h : Runs w r d wr) (ha : At w' (fun k => k < w.heap.size) w.heap.size d') (hk : Keeps (fun k => k < w.heap.size) wr w') (hs : d'.size = d.size) : Runs w r d' w' := ⟨ha, hs.trans h.2.1, h.2.2.trans (hk.below fun _ h => h)⟩
theorem Runs.text {w wr : World} {r : Nat} {d : Dk} (h : Runs w r d wr) : (⟨d.S.toArray⟩ : ByteArray).size ≤ r := by
  have h1 := h.1.good.sLe
  have h2 := h.2.1
  simp only [ByteArray.size, List.size_toArray]
  omega

set_option maxRecDepth 8000 in
set_option maxHeartbeats 4000000 in
theorem DiskFull_walk {w : World} {ao : Option Addr} {len cap bb oo : Nat} {K N : Nat → Int} {S : Nat → ByteArray} (size : Int) (h : Deeds w ao len cap bb oo K N S) :
    Calls Try.prog 5 #[.int .i64 size, .slice ao len cap] w (RetBelow (.bool true) w) := by
  have a := Lib.hid dAwake_any
  obtain ⟨r0, er, hr0, hr1⟩ := uMod size 300 (by decide)
  obtain ⟨r, rfl⟩ : ∃ r : Nat, r0 = (r : Int) := ⟨r0.toNat, by omega⟩
  have c1 := New_any (F := fun k => k < w.heap.size) (r : Int) w (fun _ h => h)
  have hnew : (Dk.new (r : Int)).size = r := by simp only [Dk.new]; omega
  have hs := h.small
  have H := Lib.hid h
  have C1 := Lib.hid c1; have HN := Lib.hid hnew
  clear h c1 hnew
  go_enter Try.func5, Try.ntmps5
  go_wp2_with fail
  refine C1.out.mono ?_
  rintro e w1 ⟨rfl, h1, g1⟩
  have cf := Lib.hid (few_any (H.out.kept g1))
  have H1 : Hid (Runs w r (Dk.new (r : Int)) w1) := Lib.hid ⟨h1, HN.out, g1⟩
  clear h1 g1 C1 HN er hr0 hr1
  go_wp2_with fail
  refine cf.out.mono ?_
  rintro e w2 ⟨⟨b, rfl⟩, rfl⟩
  clear cf
  rcases b with _ | _
  · go_wp2_with fail
    refine (a.out _).mono ?_
    rintro e w2 ⟨rfl, g⟩
    have G2 := Lib.hid (H1.out.2.2.trans (g.mono H1.out.2.2.size)); clear g
    go_wp2_with fail
    go_ret
    exact ⟨rfl, G2.out⟩
  · go_wp2_with fail
    go_loopw [6] (fun i wr => ∃ (k : Nat) (d : Dk), k ≤ len ∧ i = .int .i64 k ∧ Hid (Runs w r d wr)) (fun i _ => len - (intOf i).toNat)
    case atStart => exact ⟨0, _, Nat.zero_le _, rfl, H1⟩
    case round =>
      obtain ⟨k, d, hk, rfl, hd⟩ := hrel
      clear H1
      by_cases hlt : k < len ∧ k < 100
      · obtain ⟨hlt, h100⟩ := hlt
        have hidx := H.out.idx k hlt
        have cC := Lib.hid (Content_any hd.out.1)
        have cW := Lib.hid (Waiting_at hd.out.1)
        obtain ⟨p1, hp1⟩ : ∃ p1, (⟨d.S.toArray⟩ : ByteArray) = p1 := ⟨_, rfl⟩
        rw [hp1] at cC
        have HP1 := Lib.hid hp1; clear hp1
        go_wp2_with fail
        refine cC.out.mono ?_
        rintro e w2 ⟨rfl, rfl⟩
        go_wp2_with fail
        refine cW.out.mono ?_
        rintro e w2 ⟨rfl, h2, g2⟩
        have R2 := Lib.hid (hd.out.gives h2 g2 rfl)
        have D2 := Lib.hid (H.out.kept R2.out.2.2)
        have hcell := D2.out.at0 k hlt
        clear cC cW h2 g2 hd
        by_cases hk0 : K k = 0
        · rw [hk0] at hcell
          have hcell2 := D2.out.at2 k hlt
          have cw := Lib.hid (Write_any R2.out.1 (S k))
          by_cases hfull : d.free < (S k).size
          · have ew : d.write (S k) = d := by unfold Dk.write; rw [if_pos hfull]
            rw [ew, if_pos hfull] at cw
            clear ew
            go_wp2_with fail
            refine cw.out.mono ?_
            rintro e w3 ⟨rfl, h3, g3⟩
            have R3 := Lib.hid (R2.out.gives h3 g3 rfl)
            have hcell3 := (H.out.kept R3.out.2.2).at0 k hlt
            rw [hk0] at hcell3
            have cC := Lib.hid (Content_any R3.out.1)
            have cW := Lib.hid (Waiting_at R3.out.1)
            rw [HP1.out] at cC
            clear h3 g3 cw hcell hcell2 R2 D2
            go_wp2_with fail
            refine cC.out.mono ?_
            rintro e w4 ⟨rfl, rfl⟩
            go_wp2_with fail
            refine cW.out.mono ?_
            rintro e w4 ⟨rfl, h4, g4⟩
            have R4 := Lib.hid (R3.out.gives h4 g4 rfl)
            have hcell4 := (H.out.kept R4.out.2.2).at0 k hlt
            rw [hk0] at hcell4
            have cC := Lib.hid (Content_any R4.out.1)
            have cF := Lib.hid (Free_at R4.out.1)
            have hsz := R4.out.text
            rw [HP1.out] at cC hsz
            clear h4 g4 cW hcell3 R3 hk0 hfull
            go_wp2_with fail
            refine cC.out.mono ?_
            rintro e w5 ⟨rfl, rfl⟩
            go_wp2_with fail
            refine cF.out.mono ?_
            rintro e w5 ⟨rfl, h5, g5⟩
            have R5 := Lib.hid (R4.out.gives h5 g5 rfl)
            clear h5 g5 cC cF hcell4 R4
            go_wp2_with fail
            go_roundw
            case rel => exact ⟨k + 1, d, by omega, by go_num, R5⟩
            case measure => simp [intOf]; omega
          · rw [if_neg hfull] at cw
            have es := d.write_size (S k)
            obtain ⟨d', hd'⟩ : ∃ d', d.write (S k) = d' := ⟨_, rfl⟩
            rw [hd'] at cw es
            have ES := Lib.hid es
            clear hd' es
            go_wp2_with fail
            refine cw.out.mono ?_
            rintro e w3 ⟨rfl, h3, g3⟩
            have R3 := Lib.hid (R2.out.gives h3 g3 ES.out)
            have hcell3 := (H.out.kept R3.out.2.2).at0 k hlt
            rw [hk0] at hcell3
            have cC := Lib.hid (Content_any R3.out.1)
            have cF := Lib.hid (Free_at R3.out.1)
            have hsz := R3.out.text
            obtain ⟨p2, hp2⟩ : ∃ p2, (⟨d'.S.toArray⟩ : ByteArray) = p2 := ⟨_, rfl⟩
            rw [hp2] at cC hsz
            clear h3 g3 cw hcell hcell2 R2 D2 hp2 HP1 hk0 hfull ES
            go_wp2_with fail
            refine cC.out.mono ?_
            rintro e w5 ⟨rfl, rfl⟩
            go_wp2_with fail
            refine cF.out.mono ?_
            rintro e w5 ⟨rfl, h5, g5⟩
            have R5 := Lib.hid (R3.out.gives h5 g5 rfl)
            clear h5 g5 cC cF hcell3 R3
            go_wp2_with fail
            go_roundw
            case rel => exact ⟨k + 1, d', by omega, by go_num, R5⟩
            case measure => simp [intOf]; omega
        · have hk0' : (K k == 0) = false := by simpa using hk0
          have hk0'' : (K k != 0) = true := by simpa using hk0
          have hdo := Do_round R2.out.1 (K k) (N k) (S k)
          have hrow := World.rangeAt_alloc (deed_load D2.out k hlt) (.cells #[.int .i64 0, .string ⟨#[]⟩, .string ⟨#[]⟩, .bool false] 33)
          have es := d.deed_size (K k) (N k) (S k)
          obtain ⟨d', hd'⟩ : ∃ d', d.deed (K k) (N k) (S k) = d' := ⟨_, rfl⟩
          rw [hd'] at hdo es
          have ES := Lib.hid es; have HD := Lib.hid hdo; have HR := Lib.hid hrow
          clear hd' es hdo hrow HP1 D2
          go_wp2_with (refine wpList_load_mid rfl 29 _ rfl bb (oo + k * 3) rfl _ _ HR.out Try.underlying29 rfl deed_len ?_)
          refine HD.out.mono ?_
          rintro e w3 ⟨⟨v, rfl⟩, h3, g3⟩
          have R3 := Lib.hid (R2.out.gives h3 g3 ES.out)
          have cC := Lib.hid (Content_any R3.out.1)
          have cF := Lib.hid (Free_at R3.out.1)
          have hsz := R3.out.text
          obtain ⟨p2, hp2⟩ : ∃ p2, (⟨d'.S.toArray⟩ : ByteArray) = p2 := ⟨_, rfl⟩
          rw [hp2] at cC hsz
          clear h3 g3 hcell R2 hp2 HD HR
          go_wp2_with fail
          refine cC.out.mono ?_
          rintro e w5 ⟨rfl, rfl⟩
          go_wp2_with fail
          refine cF.out.mono ?_
          rintro e w5 ⟨rfl, h5, g5⟩
          have R5 := Lib.hid (R3.out.gives h5 g5 rfl)
          clear h5 g5 cC cF R3
          go_wp2_with fail
          go_roundw
          case rel => exact ⟨k + 1, d', by omega, by go_num, R5⟩
          case measure => simp [intOf]; omega
      · rcases Nat.lt_or_ge k len with hlt' | hge
        · have h100 : 100 ≤ k := by omega
          go_wp2_with fail
          refine (a.out _).mono ?_
          rintro e w2 ⟨rfl, g⟩
          have G2 := Lib.hid (hd.out.2.2.trans (g.mono hd.out.2.2.size)); clear g
          go_wp2_with fail
          go_ret
          exact ⟨rfl, G2.out⟩
        · go_wp2_with fail
          refine (a.out _).mono ?_
          rintro e w2 ⟨rfl, g⟩
          have G2 := Lib.hid (hd.out.2.2.trans (g.mono hd.out.2.2.size)); clear g
          go_wp2_with fail
          go_ret
          exact ⟨rfl, G2.out⟩

end Go.Proofs.Ytigampjbhicfcaa
