/- Lists of texts in memory; the plain answer's Scan, Same. -/
import Derived.Test.YtcjpednhefeboaaJrn
import Derived.Test.YtcjpednhefeboaaDskB
import Derived.Deep.Slices
import Derived.Laws.OwnMore
namespace Go.Proofs.Ytcjpednhefeboaa
open Go.RowKit Go.Deep
set_option linter.unusedVariables false

/-- A list of texts, wherever it lies: where each is met, what it is. -/
structure Lst (w : World) (ao : Option Addr) (len cap bb oo : Nat) (S : Nat → ByteArray) : Prop where
  small : len ≤ 9223372036854775807
  lt : 0 < len → bb < w.heap.size
  idx : ∀ i : Nat, i < len → ∀ w0, (Instr.indexAt 23 (.slice ao len cap) (.int .i64 (i : Int))).run Try.prog w0 = .ok (.pointer (some ⟨bb, oo + i, none⟩)) w0
  at0 : ∀ i : Nat, i < len → w.cell? ⟨bb, oo + i, none⟩ = some (.string (S i))

theorem Lst.kept {w w' : World} {ao : Option Addr} {len cap bb oo : Nat} {S : Nat → ByteArray} (h : Lst w ao len cap bb oo S) (hz : w.heap.size ≤ w'.heap.size) (hb : 0 < len → w'.heap[bb]? = w.heap[bb]?) : Lst w' ao len cap bb oo S :=
  ⟨h.small, fun h0 => Nat.lt_of_lt_of_le (h.lt h0) hz, h.idx, fun i hi => (World.cell?_of_block (w := w) (hb (by omega))).trans (h.at0 i hi)⟩
theorem Lst.below {w w' : World} {ao : Option Addr} {len cap bb oo : Nat} {S : Nat → ByteArray} (h : Lst w ao len cap bb oo S) (g : Below w.heap.size w w') : Lst w' ao len cap bb oo S := h.kept g.size fun h0 => g.block bb (h.lt h0)

theorem text_size (w : World) : (Go.sizeOf 9).run Try.prog w = .ok 1 w := by
  have h : (Try.prog.info? 9).map (·.size) = some 1 := by kernel_rfl
  obtain ⟨i, hi, hs⟩ := Option.map_eq_some_iff.1 h
  simp [sizeOf, typeInfo, hi, hs]

theorem text_index (b o len cap i : Nat) (hi : i < len) (w0 : World) : (Instr.indexAt 23 (.slice (some ⟨b, o, none⟩) len cap) (.int .i64 (i : Int))).run Try.prog w0 = .ok (.pointer (some ⟨b, o + i, none⟩)) w0 := by
  have e : (⟨b, o, none⟩ : Addr).add i = ⟨b, o + i, none⟩ := by unfold Addr.add; split <;> simp_all
  simp [Instr.indexAt, run_underlying Try.underlying23, asIntOf, hi, e]

/-- A row of texts that the call made: none, or at a block's head. -/
def Texts (w : World) (ao : Option Addr) (cap : Nat) (ts : List ByteArray) : Prop :=
  (ao = none ∧ cap = 0 ∧ ts = []) ∨ ∃ g, ao = some ⟨g, 0, none⟩ ∧ g < w.heap.size ∧ ts.length ≤ 9223372036854775807 ∧ ∀ j, j < ts.length → w.cell? ⟨g, j, none⟩ = some (.string (ts.getD j ⟨#[]⟩))
theorem Texts.lst {w : World} {ao : Option Addr} {cap : Nat} {ts : List ByteArray} (h : Texts w ao cap ts) : ∃ bb, Lst w ao ts.length cap bb 0 (fun i => ts.getD i ⟨#[]⟩) ∧ (∀ g, ao = some ⟨g, 0, none⟩ → bb = g) := by
  rcases h with ⟨rfl, rfl, rfl⟩ | ⟨g, rfl, h1, h2, h3⟩
  · exact ⟨0, ⟨by simp, fun h => absurd h (by simp), fun i h => absurd h (by simp), fun i h => absurd h (by simp)⟩, by intro g e; cases e⟩
  · refine ⟨g, ⟨h2, fun _ => h1, fun i hi w0 => ?_, fun i hi => ?_⟩, fun g' e => by injection e with e; injection e⟩
    · exact text_index g 0 ts.length cap i hi w0
    · rw [Nat.zero_add]; exact h3 i hi
theorem Texts.kept {w w' : World} {ao : Option Addr} {cap : Nat} {ts : List ByteArray} (h : Texts w ao cap ts) (hz : w.heap.size ≤ w'.heap.size) (hb : ∀ g, ao = some ⟨g, 0, none⟩ → g < w.heap.size → w'.heap[g]? = w.heap[g]?) : Texts w' ao cap ts := by
  rcases h with h | ⟨g, rfl, h1, h2, h3⟩
  · exact .inl h
  · exact .inr ⟨g, rfl, by omega, h2, fun j hj => (World.cell?_of_block (w := w) (hb g rfl h1)).trans (h3 j hj)⟩
theorem Texts.below {w w' : World} {ao : Option Addr} {cap : Nat} {ts : List ByteArray} (h : Texts w ao cap ts) (g : Below w.heap.size w w') : Texts w' ao cap ts := h.kept g.size fun b _ hb => g.block b hb

theorem text_info : (Try.prog.info? 9).map (fun i => (i.zero, i.size, i.bytes)) = some (some (.string ⟨#[]⟩), 1, 16) := by kernel_rfl

/-- What an owned row of texts is. -/
theorem Texts.of_owned {w : World} {B : Nat} {v : Value} {ts : List ByteArray} (h : w.ownsRow B 9 1 v ts.length (ts.map Value.string)) (hs : ts.length ≤ 9223372036854775807) : ∃ ao cap, v = .slice ao ts.length cap ∧ Texts w ao cap ts ∧ ∀ g, ao = some ⟨g, 0, none⟩ → B ≤ g := by
  rcases h.2 with ⟨rfl, h0⟩ | ⟨g, cap, cur, rfl, hb, hg, hnc, hcm, hcs, htake⟩
  · have : ts = [] := List.eq_nil_of_length_eq_zero h0
    subst this
    exact ⟨none, 0, rfl, .inl ⟨rfl, rfl, rfl⟩, by intro g e; cases e⟩
  · refine ⟨some ⟨g, 0, none⟩, cap, rfl, .inr ⟨g, rfl, (Array.getElem?_eq_some_iff.1 hg).1, hs, fun j hj => ?_⟩, fun g' e => by injection e with e; injection e with e _ _; omega⟩
    have := h.cells (g := g) rfl j (.string (ts.getD j ⟨#[]⟩)) (by rw [List.getElem?_map, List.getElem?_eq_getElem hj, List.getD_eq_getElem?_getD, List.getElem?_eq_getElem hj]; rfl)
    have e : (⟨g, 0, none⟩ : Addr).add j = ⟨g, j, none⟩ := by simp [Addr.add]; omega
    rwa [e] at this

/-- Nothing of what was there has turned: what is owned is owned. -/
theorem owns_below {w w' : World} {B : Nat} {e : TypeId} {n : Nat} {v : Value} {xs : List Value} (h : w.ownsRow B e 1 v n xs) (g : Below w.heap.size w w') : w'.ownsRow B e 1 v n xs :=
  h.kept (row := none) ⟨g.os, g.tape, g.output, g.size, fun k hk _ => g.block k hk⟩ (by cases hv : v.ownBlock <;> simp)
/-- One text more. -/
theorem owns_push {w1 : World} {B : Nat} {v' : Value} {ts : List ByteArray} {x : ByteArray} (h : w1.ownsRow B 9 1 v' (ts.length + 1) (ts.map Value.string ++ [Value.string x])) : w1.ownsRow B 9 1 v' (ts ++ [x]).length ((ts ++ [x]).map Value.string) := by
  rw [List.length_append, List.map_append]; exact h
/-- The one new cell. -/
theorem one_cell (w : World) (x : Value) : ∀ j u, [x][j]? = some u → (w.alloc (.cells #[x] 9)).cell? ((⟨w.heap.size, 0, none⟩ : Addr).add j) = some u := by
  intro j u hj
  match j, hj with
  | 0, hj => rw [show (⟨w.heap.size, 0, none⟩ : Addr).add 0 = ⟨w.heap.size, 0, none⟩ from rfl, World.cell?_alloc_at (w := w) _ _ _ 0 rfl]; exact hj
theorem one_text (x : ByteArray) : ∀ u ∈ [Value.string x], u.oneCell' = true := by
  intro u hu
  simp only [List.mem_singleton] at hu
  subst hu
  rfl

theorem text_from (s : ByteArray) (n : Nat) (h : n ≤ s.size) (w : World) : (Instr.slice 9 (.string s) (some (.int .i64 (n : Int))) none none).run Try.prog w = .ok (.string (s.extract n s.size)) w := slice_from s n h w

set_option maxHeartbeats 1000000 in
theorem rScan_any (s : ByteArray) (hs : s.size ≤ 1099511627776) (w : World) :
    Calls Try.prog 10 #[.string s] w fun e w' => ∃ ao cap, e = .returned (.tuple #[.slice ao (Jn.scan s).1.length cap, .int .i64 ((Jn.scan s).2 : Int)]) ∧ Texts w' ao cap (Jn.scan s).1 ∧ (∀ g, ao = some ⟨g, 0, none⟩ → w.heap.size ≤ g) ∧ Below w.heap.size w w' := by
  obtain ⟨i0, hi, hz0, hz1, hz2⟩ := info_parts text_info
  go_enter Try.func10, Try.ntmps10
  go_wp2_with fail
  go_loopw [4, 5] (fun v i wr => ∃ (ts : List ByteArray) (n : Nat), i = .int .i64 n ∧ n ≤ s.size ∧ Hid (Jn.Part s ts n ∧ wr.ownsRow w.heap.size 9 1 v ts.length (ts.map Value.string) ∧ Below w.heap.size w wr)) (fun _ i _ => s.size - (intOf i).toNat)
  case atStart => exact ⟨[], 0, rfl, Nat.zero_le _, Jn.Part.start s, World.ownsRow_nil _ _ _ _, Below.refl _ _⟩
  case round =>
    obtain ⟨ts, n, rfl, hn, hd⟩ := hrel
    have hts := hd.out.1.small_scan
    obtain ⟨ao, cap, hv, ht, hB⟩ := Texts.of_owned hd.out.2.1 (by omega)
    subst hv
    have HT := Lib.hid (And.intro ht hB)
    clear ht hB
    by_cases hlt : n < s.size
    · have hsl := text_from s n hn
      have hr := rRead_any (s.extract n s.size) (by rw [ByteArray.size_extract]; omega) wr
      obtain ⟨rd, hrd⟩ : ∃ rd, Cr.read (s.extract n s.size) = rd := ⟨_, rfl⟩
      rw [hrd] at hr
      obtain ⟨x, m, er⟩ := rd
      have HR := Lib.hid hr; have HRD := Lib.hid hrd
      clear hr hrd
      by_cases he : er = 0
      · subst he
        obtain ⟨m', hm, hm8, hms, hx, _⟩ := Cr.read_range (s.extract n s.size) (by rw [HRD.out])
        rw [HRD.out] at hm hx
        have hzz : (s.extract n s.size).size = s.size - n := by rw [ByteArray.size_extract]; omega
        rw [hzz] at hms
        simp only at hm hx
        subst hm
        clear hzz
        go_wp2_with fail
        refine HR.out.mono ?_
        rintro e w2 ⟨rfl, g2⟩
        have hown := owns_below hd.out.2.1 g2
        have hsz : w.heap.size ≤ w2.heap.size := Nat.le_trans hd.out.2.2.size g2.size
        have G2 := Lib.hid (hd.out.2.2.trans (g2.mono hd.out.2.2.size))
        have hl1 : ts.length + 1 ≤ maxLen := by unfold maxLen; omega
        clear g2
        unfold Cr.ans
        go_wp2_with (first | (at_builtin; refine wpList_append_own _ rfl (.tmp 23) (.tmp 25) 23 rfl w.heap.size 9 i0 (.string ⟨#[]⟩) 1 16 Try.underlying23 hi hz0 hz1 hz2 rfl (by decide) _ _ _ rfl (hown.alloc _) ⟨w2.heap.size, 0, none⟩ 1 1 [.string x] rfl rfl (one_cell w2 _) (one_text x) hl1 (by omega) (by simp; omega) ?_; intro v' w3 hown' hgrow _) | fail)
        have hP := hd.out.1.next HRD.out
        have G3 := (G2.out.alloc hsz (.cells #[.string x] 9)).grown hgrow (by simp; omega) (fun k hk => (hown.lt k hk).1)
        have D3 : Hid (Jn.Part s (ts ++ [x]) (n + m') ∧ w3.ownsRow w.heap.size 9 1 v' (ts ++ [x]).length ((ts ++ [x]).map Value.string) ∧ Below w.heap.size w w3) := Lib.hid ⟨hP, owns_push hown', G3⟩
        clear hP hown' hgrow hown G3 G2 HR HRD HT hl1
        go_wp2_with fail
        go_roundw
        case rel => exact ⟨ts ++ [x], n + m', by go_num, by omega, D3⟩
        case measure => simp [intOf]; omega
      · have hP := hd.out.1.done (by rw [HRD.out]; exact he)
        have he' : (er != 0) = true := by simpa using he
        go_wp2_with fail
        refine HR.out.mono ?_
        rintro e w2 ⟨rfl, g2⟩
        have R : Hid (∃ ao' cap', Ending.returned (.tuple #[.slice ao ts.length cap, .int .i64 (n : Int)]) = .returned (.tuple #[.slice ao' (Jn.scan s).1.length cap', .int .i64 ((Jn.scan s).2 : Int)]) ∧ Texts w2 ao' cap' (Jn.scan s).1 ∧ (∀ g, ao' = some ⟨g, 0, none⟩ → w.heap.size ≤ g) ∧ Below w.heap.size w w2) :=
          Lib.hid (by rw [hP]; exact ⟨ao, cap, rfl, HT.out.1.below g2, HT.out.2, hd.out.2.2.trans (g2.mono hd.out.2.2.size)⟩)
        clear g2 hP
        unfold Cr.ans
        go_wp2_with fail
        go_ret2
        exact R.out
    · have hP := hd.out.1.done (Jn.read_none s n (by omega))
      have R : Hid (∃ ao' cap', Ending.returned (.tuple #[.slice ao ts.length cap, .int .i64 (n : Int)]) = .returned (.tuple #[.slice ao' (Jn.scan s).1.length cap', .int .i64 ((Jn.scan s).2 : Int)]) ∧ Texts wr ao' cap' (Jn.scan s).1 ∧ (∀ g, ao' = some ⟨g, 0, none⟩ → w.heap.size ≤ g) ∧ Below w.heap.size w wr) :=
        Lib.hid (by rw [hP]; exact ⟨ao, cap, rfl, HT.out.1, HT.out.2, hd.out.2.2⟩)
      clear hP
      go_wp2_with fail
      go_ret2
      exact R.out

theorem bytes_ne {x y : ByteArray} (h : x ≠ y) : (x.toList == y.toList) = false := by
  rcases hq : (x.toList == y.toList) with _ | _
  · rfl
  · refine absurd (ba_ext ?_) h
    have := eq_of_beq hq
    rwa [ByteArray.toList_eq, ByteArray.toList_eq] at this

/-- Two lists, text by text. -/
def sameTo (S T : Nat → ByteArray) : Nat → Bool
  | 0 => true
  | n + 1 => sameTo S T n && decide (S n = T n)
theorem sameTo_ge {S T : Nat → ByteArray} {n m : Nat} (h : sameTo S T m = true) (hn : n ≤ m) : sameTo S T n = true := by
  induction m with
  | zero => have : n = 0 := by omega
            subst this; exact h
  | succ m ih =>
    simp only [sameTo, Bool.and_eq_true] at h
    rcases Nat.lt_or_ge m n with q | q
    · have : n = m + 1 := by omega
      subst this; simp only [sameTo, Bool.and_eq_true]; exact h
    · exact ih h.1 q
theorem sameTo_iff (S T : Nat → ByteArray) : ∀ n, sameTo S T n = true ↔ ∀ i, i < n → S i = T i
  | 0 => by simp [sameTo]
  | n + 1 => by
    simp only [sameTo, Bool.and_eq_true, sameTo_iff S T n, decide_eq_true_iff]
    constructor
    · rintro ⟨h, e⟩ i hi
      rcases Nat.lt_or_ge i n with q | q
      · exact h i q
      · have : i = n := by omega
        subst this; exact e
    · exact fun h => ⟨fun i hi => h i (by omega), h n (by omega)⟩

theorem Same_len {w : World} {ao bo : Option Addr} {la lb ca cb ba ob bb oo : Nat} {S T : Nat → ByteArray} (h : Lst w ao la ca ba oo S) (g : Lst w bo lb cb bb ob T) (hl : la ≠ lb) :
    Calls Try.prog 11 #[.slice ao la ca, .slice bo lb cb] w fun e w' => e = .returned (.bool false) ∧ ∃ n, w' = w.drewN n := by
  have h1 := h.small; have h2 := g.small
  have hl' : ((la : Int) != (lb : Int)) = true := by simp; omega
  clear h g
  go_enter Try.func11, Try.ntmps11
  go_wp2_with fail
  go_ret
  exact ⟨rfl, 0, rfl⟩

theorem Same_eq {w : World} {ao bo : Option Addr} {la ca cb ba ob bb oo : Nat} {S T : Nat → ByteArray} (h : Lst w ao la ca ba oo S) (g : Lst w bo la cb bb ob T) :
    Calls Try.prog 11 #[.slice ao la ca, .slice bo la cb] w fun e w' => e = .returned (.bool (sameTo S T la)) ∧ ∃ n, w' = w.drewN n := by
  have h1 := h.small
  have H := Lib.hid h; have G := Lib.hid g
  clear h g
  go_enter Try.func11, Try.ntmps11
  go_wp2_with fail
  go_loopw [5] (fun i wr => ∃ k : Nat, k ≤ la ∧ i = .int .i64 k ∧ Hid (sameTo S T k = true ∧ ∃ n, wr = w.drewN n)) (fun i _ => la - (intOf i).toNat)
  case atStart => exact ⟨0, Nat.zero_le _, rfl, rfl, 0, rfl⟩
  case round =>
    obtain ⟨k, hk, rfl, hd⟩ := hrel
    obtain ⟨hs, n0, rfl⟩ := hd.out
    clear hd
    have HS := Lib.hid hs; clear hs
    by_cases hlt : k < la
    · have i1 := H.out.idx k hlt
      have i2 := G.out.idx k hlt
      have c1 := H.out.at0 k hlt
      have c2 := G.out.at0 k hlt
      obtain ⟨x, hx⟩ : ∃ x, S k = x := ⟨_, rfl⟩
      obtain ⟨y, hy⟩ : ∃ y, T k = y := ⟨_, rfl⟩
      rw [hx] at c1
      rw [hy] at c2
      have HX := Lib.hid hx; have HY := Lib.hid hy
      clear hx hy
      by_cases he : x = y
      · subst he
        have R : Hid (∀ n, sameTo S T (k + 1) = true ∧ ∃ m, w.drewN n = w.drewN m) := Lib.hid fun n => ⟨by simp only [sameTo, HS.out, HX.out, HY.out]; simp, n, rfl⟩
        go_wp2_with fail
        go_quiet (fail)
        go_wp2_with fail
        go_roundw
        case rel => exact ⟨k + 1, by omega, by go_num, R.out _⟩
        case measure => simp [intOf]; omega
      · have hf : sameTo S T la = false := by
          rcases hq : sameTo S T la with _ | _
          · rfl
          · have := (sameTo_iff S T la).1 hq k hlt
            rw [HX.out, HY.out] at this
            exact absurd this he
        have hne := bytes_ne he
        have R : Hid (∀ n, Ending.returned (.bool false) = .returned (.bool (sameTo S T la)) ∧ ∃ m, w.drewN n = w.drewN m) := Lib.hid fun n => ⟨by rw [hf], n, rfl⟩
        clear hf he
        go_wp2_with fail
        go_quiet (fail)
        go_wp2_with fail
        go_ret
        exact ⟨(R.out 0).1, _, World.drewN_drewN _ _ _⟩
    · have hkl : k = la := by omega
      subst hkl
      have R : Hid (∀ n, Ending.returned (.bool true) = .returned (.bool (sameTo S T k)) ∧ ∃ m, w.drewN n = w.drewN m) := Lib.hid fun n => ⟨by rw [HS.out], n, rfl⟩
      go_wp2_with fail
      go_ret
      exact R.out _

theorem Same_any {w : World} {ao bo : Option Addr} {ca cb ba ob bb oo : Nat} {l m : List ByteArray} (h : Lst w ao l.length ca ba oo (fun i => l.getD i ⟨#[]⟩)) (g : Lst w bo m.length cb bb ob (fun i => m.getD i ⟨#[]⟩)) :
    Calls Try.prog 11 #[.slice ao l.length ca, .slice bo m.length cb] w (RetDrew (.bool (decide (l = m))) w) := by
  by_cases hl : l.length = m.length
  · rw [← hl] at g ⊢
    refine (Same_eq h g).mono fun e w' ⟨he, hw⟩ => ⟨?_, hw⟩
    rw [he]
    congr 2
    rw [Bool.eq_iff_iff, sameTo_iff, decide_eq_true_iff]
    constructor
    · intro q
      refine List.ext_getElem hl fun i h1 h2 => ?_
      have := q i h1
      rwa [List.getD_eq_getElem?_getD, List.getD_eq_getElem?_getD, List.getElem?_eq_getElem h1, List.getElem?_eq_getElem h2] at this
    · rintro rfl i hi
      rfl
  · have : decide (l = m) = false := by simp; intro e; exact hl (by rw [e])
    rw [this]
    exact Same_len h g hl

end Go.Proofs.Ytcjpednhefeboaa
