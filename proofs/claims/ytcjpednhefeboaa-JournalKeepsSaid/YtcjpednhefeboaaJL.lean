/- What was appended is found again: the statement's walk, over a journal that keeps its contracts. -/
import Derived.Test.YtcjpednhefeboaaJK
import Derived.Test.YtcjpednhefeboaaDskD
namespace Go.Proofs.Ytcjpednhefeboaa
open Go.RowKit
set_option linter.unusedVariables false

set_option maxRecDepth 8000 in
set_option maxHeartbeats 4000000 in
theorem JournalKeeps_walk (C : JC) {w : World} {ao : Option Addr} {len cap bb oo : Nat} {S : Nat → ByteArray} (l : Lst w ao len cap bb oo S) (hb : ∀ i, i < len → (S i).size ≤ 140737488351232) {ao2 : Option Addr} {len2 cap2 bb2 oo2 : Nat} {S2 : Nat → ByteArray} (m : Lst w ao2 len2 cap2 bb2 oo2 S2) (hb2 : ∀ i, i < len2 → (S2 i).size ≤ 140737488351232) :
    Calls Try.prog 5 #[.slice ao len cap, .slice ao2 len2 cap2] w (RetBelow (.bool true) w) := by
  have a := Lib.hid (jAwake_any C)
  have cf := Lib.hid (tFew_any l hb)
  have cf2 := Lib.hid (tFew_any m hb2)
  have L := Lib.hid l; have M := Lib.hid m
  clear l hb m hb2
  go_enter Try.func5, Try.ntmps5
  go_wp2_with fail
  refine cf.out.mono ?_
  rintro e w1 ⟨⟨b, rfl, hfew⟩, rfl⟩
  clear cf
  rcases b with _ | _
  · clear hfew
    go_wp2_with fail
    refine (a.out _).mono ?_
    rintro e w1 ⟨rfl, g⟩
    have G := Lib.hid g; clear g
    go_wp2_with fail
    go_ret
    exact ⟨rfl, G.out⟩
  have h60 := (hfew rfl).2
  clear hfew
  go_wp2_with fail
  refine cf2.out.mono ?_
  rintro e w1 ⟨⟨b, rfl, hfew⟩, rfl⟩
  clear cf2
  rcases b with _ | _
  · clear hfew
    go_wp2_with fail
    refine (a.out _).mono ?_
    rintro e w1 ⟨rfl, g⟩
    have G := Lib.hid g; clear g
    go_wp2_with fail
    go_ret
    exact ⟨rfl, G.out⟩
  have h60' := (hfew rfl).2
  clear hfew
  have c := Lib.hid (New_any (F := fun k => k < w.heap.size) 1048576 w (fun _ h => h))
  go_wp2_with fail
  refine c.out.mono ?_
  rintro e w1 ⟨rfl, h1, g1⟩
  rw [Jn.full_none] at h1
  have co := C.open_ h1
  have hsd := Jn.full_scan [] (by simp)
  rw [hsd.1, hsd.2] at co
  have CO := Lib.hid co; have G1 := Lib.hid g1
  clear co hsd h1 g1 c
  go_wp2_with fail
  refine CO.out.mono ?_
  rintro e w2 ⟨j, ga, gc, rfl, j2, t2, hj2, hn2, k2⟩
  have R2 : Hid (Run C w w2 j w.heap.size none 0 []) := Lib.hid ⟨C.mono j2 (G := fun _ => False) (Keeps.refl _ _) (fun _ q => q.elim) (fun q hq => hq.elim (fun h => .inl (.inl h)) fun h => (by cases h)), Gath.none_ _ _, G1.out.trans (k2.below fun _ h => h), (by simp), (by decide)⟩
  clear j2 t2 hj2 hn2 k2 CO
  simp only [List.length_nil]
  go_wp2_with fail
  go_loopw [8, 9] (fun v i wr => ∃ (k : Nat) (ts : List ByteArray) (go : Option Addr) (gc : Nat), k ≤ len ∧ i = .int .i64 k ∧ v = .slice go ts.length gc ∧ ts.length ≤ k ∧ Hid (Run C w wr j w.heap.size go gc ts)) (fun _ i _ => len - (intOf i).toNat)
  case atStart => exact ⟨0, [], none, 0, Nat.zero_le _, rfl, rfl, Nat.le_refl _, R2⟩
  case round =>
    obtain ⟨k, ts, go, gc, hk, rfl, rfl, htl, hd⟩ := hrel
    clear R2
    by_cases hlt : k < len
    · have hidx := L.out.idx k hlt
      have hcell := (L.out.below hd.out.g).at0 k hlt
      obtain ⟨x, hx⟩ : ∃ x, S k = x := ⟨_, rfl⟩
      rw [hx] at hcell
      have ca := C.append hd.out.a x (by omega)
      have hcell2 : ∀ w2, Keeps (fun q => q < w.heap.size ∨ rowOf go q) _ w2 → w2.cell? ⟨bb, oo + k, none⟩ = some (.string x) := fun w2 g => (World.cell?_of_block (g.block bb (.inl (L.out.lt (by omega))))).trans hcell
      have HX := Lib.hid hx
      clear hx
      rcases Jn.app_full ts hd.out.sz x with ⟨hv, hx1, hd', hsz⟩ | ⟨hv, hd'⟩
      · rw [hv, hd'] at ca
        have CA := Lib.hid ca; have HC := Lib.hid hcell2; have E := Lib.hid (And.intro hx1 hsz)
        clear ca hcell2 hv hd' hx1 hsz
        go_wp2_with fail
        refine CA.out.mono ?_
        rintro e w3 ⟨rfl, a3, k3⟩
        have hcell3 := HC.out w3 k3
        have hr3 := hd.out.r.kept k3.size fun g hg => k3.block g (.inr hg)
        obtain ⟨go', gc', w4, hrun, r4, z4, b4, n4, o4, p4, q4⟩ := gath_push hr3 (Nat.le_trans hd.out.g.size k3.size) (by omega) x
        have R4 : Hid (Run C w w4 j w.heap.size go' gc' (ts ++ [x])) := Lib.hid (hd.out.push a3 k3 E.out.1 E.out.2 r4 z4 b4 n4 o4 p4 q4)
        clear a3 k3 hr3 r4 z4 b4 n4 o4 p4 q4 CA HC E
        go_wp2_with (at_builtin; refine wpList_append_at rfl _ _ _ _ rfl _ _ _ _ rfl rfl hrun ?_)
        go_roundw
        case rel => exact ⟨k + 1, ts ++ [x], go', gc', by omega, by go_num, by rw [List.length_append]; rfl, by rw [List.length_append]; simp only [List.length_cons, List.length_nil]; omega, R4⟩
        case measure => simp [intOf]; omega
      · obtain ⟨v, hv'⟩ : ∃ v, (Jn.app (Jn.full ts) ts.length x).1 = v := ⟨_, rfl⟩
        rw [hv'] at ca hv
        rw [hd'] at ca
        have hv0 : (v == 0) = false := by simpa using hv
        have CA := Lib.hid ca
        clear ca hcell2 hv' hd' hv
        go_wp2_with fail
        refine CA.out.mono ?_
        rintro e w3 ⟨rfl, a3, k3⟩
        have R3 : Hid (Run C w w3 j w.heap.size go gc ts) := Lib.hid (hd.out.same a3 k3)
        clear a3 k3 CA
        go_wp2_with fail
        go_roundw
        case rel => exact ⟨k + 1, ts, go, gc, by omega, by go_num, rfl, by omega, R3⟩
        case measure => simp [intOf]; omega
    · have hkl : k = len := by omega
      subst hkl
      have co := C.open_ (C.disk hd.out.a)
      have hsd := Jn.full_scan ts hd.out.small
      rw [hsd.1, hsd.2] at co
      have CO := Lib.hid co
      clear co hsd
      go_wp2_with fail
      refine CO.out.mono ?_
      rintro e w3 ⟨j', ga', gc', rfl, j3, t3, hj3, hn3, k3⟩
      have hr3 := hd.out.r.kept k3.size fun g hg => k3.block g (.inr hg)
      obtain ⟨bx, lx, _⟩ := t3.lst
      obtain ⟨by', ly, _⟩ := (hr3.texts (by omega)).lst
      have cs := Same_any lx ly
      rw [decide_eq_true rfl] at cs
      have R3 : Hid (Run C w w3 j' w.heap.size go gc ts) := Lib.hid ⟨C.mono j3 (G := fun _ => False) (Keeps.refl _ _) (fun _ q => q.elim) (fun q hq => .inl (.inl hq)), hr3, hd.out.g.trans (k3.below fun _ h => .inl h), hd.out.small, hd.out.sz⟩
      have CS := Lib.hid cs
      clear cs lx ly j3 t3 hj3 hn3 k3 hr3 CO hd
      simp only
      go_wp2_with fail
      refine CS.out.mono ?_
      rintro e w4 ⟨rfl, n4, rfl⟩
      clear CS
      go_wp2_with fail
      go_loopw [8, 12] (fun v i wr => ∃ (k : Nat) (ts : List ByteArray) (go : Option Addr) (gc : Nat), k ≤ len2 ∧ i = .int .i64 k ∧ v = .slice go ts.length gc ∧ ts.length ≤ 60 + k ∧ Hid (Run C w wr j' w.heap.size go gc ts)) (fun _ i _ => len2 - (intOf i).toNat)
      case atStart => exact ⟨0, ts, go, gc, Nat.zero_le _, rfl, rfl, by omega, R3.out.drewN n4⟩
      case round =>
        obtain ⟨k, ts, go, gc, hk, rfl, rfl, htl, hd⟩ := hrel
        clear R3
        by_cases hlt : k < len2
        · have hidx := M.out.idx k hlt
          have hcell := (M.out.below hd.out.g).at0 k hlt
          obtain ⟨x, hx⟩ : ∃ x, S2 k = x := ⟨_, rfl⟩
          rw [hx] at hcell
          have ca := C.append hd.out.a x (by omega)
          have hcell2 : ∀ w2, Keeps (fun q => q < w.heap.size ∨ rowOf go q) _ w2 → w2.cell? ⟨bb2, oo2 + k, none⟩ = some (.string x) := fun w2 g => (World.cell?_of_block (g.block bb2 (.inl (M.out.lt (by omega))))).trans hcell
          have HX := Lib.hid hx
          clear hx
          rcases Jn.app_full ts hd.out.sz x with ⟨hv, hx1, hd', hsz⟩ | ⟨hv, hd'⟩
          · rw [hv, hd'] at ca
            have CA := Lib.hid ca; have HC := Lib.hid hcell2; have E := Lib.hid (And.intro hx1 hsz)
            clear ca hcell2 hv hd' hx1 hsz
            go_wp2_with fail
            refine CA.out.mono ?_
            rintro e w3 ⟨rfl, a3, k3⟩
            have hcell3 := HC.out w3 k3
            have hr3 := hd.out.r.kept k3.size fun g hg => k3.block g (.inr hg)
            obtain ⟨go', gc', w4, hrun, r4, z4, b4, n4, o4, p4, q4⟩ := gath_push hr3 (Nat.le_trans hd.out.g.size k3.size) (by omega) x
            have R4 : Hid (Run C w w4 j' w.heap.size go' gc' (ts ++ [x])) := Lib.hid (hd.out.push a3 k3 E.out.1 E.out.2 r4 z4 b4 n4 o4 p4 q4)
            clear a3 k3 hr3 r4 z4 b4 n4 o4 p4 q4 CA HC E
            go_wp2_with (at_builtin; refine wpList_append_at rfl _ _ _ _ rfl _ _ _ _ rfl rfl hrun ?_)
            go_roundw
            case rel => exact ⟨k + 1, ts ++ [x], go', gc', by omega, by go_num, by rw [List.length_append]; rfl, by rw [List.length_append]; simp only [List.length_cons, List.length_nil]; omega, R4⟩
            case measure => simp [intOf]; omega
          · obtain ⟨v, hv'⟩ : ∃ v, (Jn.app (Jn.full ts) ts.length x).1 = v := ⟨_, rfl⟩
            rw [hv'] at ca hv
            rw [hd'] at ca
            have hv0 : (v == 0) = false := by simpa using hv
            have CA := Lib.hid ca
            clear ca hcell2 hv' hd' hv
            go_wp2_with fail
            refine CA.out.mono ?_
            rintro e w3 ⟨rfl, a3, k3⟩
            have R3 : Hid (Run C w w3 j' w.heap.size go gc ts) := Lib.hid (hd.out.same a3 k3)
            clear a3 k3 CA
            go_wp2_with fail
            go_roundw
            case rel => exact ⟨k + 1, ts, go, gc, by omega, by go_num, rfl, by omega, R3⟩
            case measure => simp [intOf]; omega
        · have hkl : k = len2 := by omega
          subst hkl
          have co := C.open_ (C.disk hd.out.a)
          have hsd := Jn.full_scan ts hd.out.small
          rw [hsd.1, hsd.2] at co
          have CO := Lib.hid co
          clear co hsd
          go_wp2_with fail
          refine CO.out.mono ?_
          rintro e w5 ⟨j'', ga'', gc'', rfl, j5, t5, hj5, hn5, k5⟩
          have hr5 := hd.out.r.kept k5.size fun g hg => k5.block g (.inr hg)
          obtain ⟨bx, lx, _⟩ := t5.lst
          obtain ⟨by', ly, _⟩ := (hr5.texts (by omega)).lst
          have cs := Same_any lx ly
          rw [decide_eq_true rfl] at cs
          have cr := fun n => C.records (C.mono j5 (G := fun _ => False) ((Keeps.refl _ _).drewN n) (fun _ q => q.elim) (fun q hq => .inl hq))
          have CS := Lib.hid cs; have CR := Lib.hid cr; have G5 := Lib.hid (hd.out.g.trans (k5.below fun _ h => .inl h))
          clear cs cr lx ly j5 t5 hj5 hn5 k5 hr5 CO hd
          simp only
          go_wp2_with fail
          refine CS.out.mono ?_
          rintro e w6 ⟨rfl, n6, rfl⟩
          clear CS
          go_wp2_with fail
          refine (CR.out n6).mono ?_
          rintro e w7 ⟨rfl, rfl⟩
          clear CR
          go_wp2_with fail
          refine (a.out _).mono ?_
          rintro e w8 ⟨rfl, g⟩
          have G := Lib.hid ((below_drewN G5.out n6).trans (g.mono G5.out.size)); clear g
          go_wp2_with fail
          go_ret
          exact ⟨rfl, G.out⟩

end Go.Proofs.Ytcjpednhefeboaa
