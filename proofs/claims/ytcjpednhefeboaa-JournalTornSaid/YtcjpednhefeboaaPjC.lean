/- The program's journal in memory; Open, Records. -/
import Derived.Test.YtcjpednhefeboaaPjB
namespace Go.Proofs.Ytcjpednhefeboaa
open Go.RowKit
set_option linter.unusedVariables false

/-- The program's journal in memory, the blocks of F being others'. -/
structure Pja (w : World) (F : Nat → Prop) (J D : Nat) (d : Dk) (N : Nat) : Prop where
  c0 : w.cell? ⟨J, 0, none⟩ = some (.pointer (some ⟨D, 0, none⟩))
  c1 : w.cell? ⟨J, 1, none⟩ = some (.int .i64 (N : Int))
  f1 : w.frozen? ⟨J, 1, none⟩ = false
  own : ¬ F J
  disk : At w (fun k => F k ∨ k = J) D d
section
variable {w w' : World} {F : Nat → Prop} {J D N : Nat} {d d' : Dk}
theorem Pja.lt (h : Pja w F J D d N) : J < w.heap.size := World.block_lt_of_cell? w _ h.c0
theorem Pja.mono {G K : Nat → Prop} (h : Pja w F J D d N) (g : Keeps (fun k => k < w.heap.size ∧ ¬ G k) w w') (hG : ∀ k, G k → F k) (hK : ∀ k, K k → F k ∨ w.heap.size ≤ k ∧ k < w'.heap.size) : Pja w' K J D d N := by
  have hlt := h.lt
  have e : w'.heap[J]? = w.heap[J]? := g.block J ⟨hlt, fun q => h.own (hG J q)⟩
  refine ⟨(World.cell?_of_block (w := w) e).trans h.c0, (World.cell?_of_block (w := w) e).trans h.c1, (World.frozen?_of_block (w := w) e).trans h.f1, fun q => ?_, h.disk.mono g (fun k q => .inl (hG k q)) _ fun k q => ?_⟩
  · rcases hK J q with q | q
    · exact h.own q
    · omega
  · rcases q with q | q
    · rcases hK k q with q | q
      · exact .inl (.inl q)
      · exact .inr q
    · exact .inl (.inr q)
/-- Behind one of the disk's methods. -/
theorem Pja.turn (h : Pja w F J D d N) (r : At w' (fun k => F k ∨ k = J) D d') (k : Keeps (fun k => F k ∨ k = J) w w') : Pja w' F J D d' N :=
  ⟨(World.cell?_of_block (w := w) (k.block J (.inr rfl))).trans h.c0, (World.cell?_of_block (w := w) (k.block J (.inr rfl))).trans h.c1, (World.frozen?_of_block (w := w) (k.block J (.inr rfl))).trans h.f1, h.own, r⟩
theorem Pja.below (h : Pja w F J D d N) (g : Below w.heap.size w w') : Pja w' F J D d N :=
  h.mono (G := fun _ => False) (Keeps.of_below g fun _ hk => hk.1) (fun _ hk => hk.elim) fun _ hk => .inl hk
theorem Pja.base (h : Pja w F J D d N) : ∀ k, F k → k < w.heap.size := fun k hk => h.disk.base k (.inl hk)
/-- The count is told anew. -/
theorem Pja.count (h : Pja w F J D d N) (M : Nat) : Pja (w.setCell ⟨J, 1, none⟩ (.int .i64 (M : Int))) F J D d M :=
  ⟨(World.cell?_setCell_other _ _ _ _ (by simp)).trans h.c0, World.cell?_setCell_same _ _ _ h.c1, by simpa using h.f1, h.own,
    h.disk.mono (G := fun k => k = J) ((Keeps.refl _ w).setCell (p := ⟨J, 1, none⟩) (fun q => q.2 rfl) _) (fun k q => .inr q) _ fun k q => .inl q⟩
end

theorem Records_any {w : World} {F : Nat → Prop} {J D N : Nat} {d : Dk} (h : Pja w F J D d N) : Calls Try.prog 24 #[.pointer (some ⟨J, 0, none⟩)] w fun e w' => e = .returned (.int .i64 (N : Int)) ∧ w = w' := by
  have c1 := h.c1
  clear h
  go_enter Try.func24, Try.ntmps24
  go_wp2_with fail
  go_ret
  exact ⟨rfl, rfl⟩

theorem pj_new {w w1 w3 : World} {F : Nat → Prop} {D : Nat} {d' : Dk} {ts : List ByteArray} (ao : Option Addr) (cap : Nat) (t1 : Texts w1 ao cap ts) (hg : ∀ g, ao = some ⟨g, 0, none⟩ → w.heap.size ≤ g) (g1 : Below w.heap.size w w1) (k : Keeps (fun k => F k ∨ rowOf ao k) w1 w3) (hF : ∀ k, F k → k < w.heap.size) (r : At w3 (fun k => F k ∨ rowOf ao k) D d') :
    ∃ j ao' cap', Ending.returned (.tuple #[.pointer (some ⟨w3.heap.size, 0, none⟩), .slice ao ts.length cap]) = .returned (.tuple #[.pointer (some ⟨j, 0, none⟩), .slice ao' ts.length cap']) ∧
      Pja (w3.alloc (.cells #[.pointer (some ⟨D, 0, none⟩), .int .i64 (ts.length : Int)] 63)) (fun k => F k ∨ rowOf ao' k) j D d' ts.length ∧ Texts (w3.alloc (.cells #[.pointer (some ⟨D, 0, none⟩), .int .i64 (ts.length : Int)] 63)) ao' cap' ts ∧ w.heap.size ≤ j ∧ (∀ g, ao' = some ⟨g, 0, none⟩ → w.heap.size ≤ g) ∧ Keeps F w (w3.alloc (.cells #[.pointer (some ⟨D, 0, none⟩), .int .i64 (ts.length : Int)] 63)) := by
  have hz : w.heap.size ≤ w3.heap.size := Nat.le_trans g1.size k.size
  have hlt : ∀ g, ao = some ⟨g, 0, none⟩ → g < w1.heap.size := by
    intro g e
    rcases t1 with ⟨rfl, _⟩ | ⟨g', rfl, h1, _⟩
    · cases e
    · injection e with e
      injection e with e _ _
      omega
  refine ⟨w3.heap.size, ao, cap, rfl, ⟨World.cell?_alloc_at (w := w3) _ _ _ 0 rfl, World.cell?_alloc_at (w := w3) _ _ _ 1 rfl, World.frozen?_alloc_at (w := w3) _ _ _ 1 rfl, ?_, ?_⟩, ?_, hz, hg, ?_⟩
  · rintro (q | q)
    · have := hF _ q; omega
    · have := hlt _ q; have := k.size; omega
  · refine r.mono (G := fun _ => False) ((Keeps.refl _ w3).alloc (fun k hk => hk.1) _) (fun _ q => q.elim) _ fun k q => ?_
    rcases q with q | q
    · exact .inl q
    · subst q; exact .inr ⟨Nat.le_refl _, by simp⟩
  · exact Texts.kept (w := w1) t1 (by have := k.size; simp; omega) fun g e hl => (Below.heap_alloc _ _ _ (Nat.lt_of_lt_of_le hl k.size)).trans (k.block g (.inr e))
  · exact ((Keeps.of_below g1 hF).trans (k.mono fun k q => .inl q)).alloc (fun k q => Nat.lt_of_lt_of_le (hF k q) hz) _

/-- What Open leaves. -/
def Opens (w : World) (F : Nat → Prop) (D : Nat) (d : Dk) (e : Ending) (w' : World) : Prop := ∃ j ao cap, e = .returned (.tuple #[.pointer (some ⟨j, 0, none⟩), .slice ao (Jn.scan (Jn.text d)).1.length cap]) ∧
    Pja w' (fun k => F k ∨ rowOf ao k) j D (Jn.opened d) (Jn.scan (Jn.text d)).1.length ∧ Texts w' ao cap (Jn.scan (Jn.text d)).1 ∧ w.heap.size ≤ j ∧ (∀ g, ao = some ⟨g, 0, none⟩ → w.heap.size ≤ g) ∧ Keeps F w w'

set_option maxHeartbeats 1000000 in
theorem Open_any {w : World} {F : Nat → Prop} {D : Nat} {d : Dk} (h : At w F D d) : Calls Try.prog 19 #[.pointer (some ⟨D, 0, none⟩)] w (Opens w F D d) := by
  have hgood : d.Good := by obtain ⟨_, _, _, _, _, _, _, _, _, _, _, hg⟩ := h.four; exact hg
  have hsz : (Jn.text d).size ≤ 1048576 := by
    have h1 := hgood.sLe; have h2 := hgood.sz
    have h3 : (Jn.text d).size = d.S.length := arr_size d.S
    omega
  have hle := Jn.scan_le (Jn.text d)
  have hct := Content_any h
  change Calls _ _ _ _ (fun e w' => e = .returned (.string (Jn.text d)) ∧ w = w') at hct
  have hsc := Scan_any (Jn.text d) (by omega) w
  have hcut := fun w => text_to (Jn.text d) (Jn.scan (Jn.text d)).2 hle.1 w
  have hno : ¬ d.size < ((Jn.text d).extract 0 (Jn.scan (Jn.text d)).2).size := by
    have := hgood.sLe
    have h2 : (Jn.text d).size = d.S.length := arr_size d.S
    rw [ByteArray.size_extract]; omega
  unfold Opens Jn.opened
  unfold Scans at hsc
  obtain ⟨p, hp⟩ : ∃ p, Jn.text d = p := ⟨_, rfl⟩
  rw [hp] at hsz hle hct hsc hcut hno ⊢
  obtain ⟨q, hq⟩ : ∃ q, Jn.scan p = q := ⟨_, rfl⟩
  rw [hq] at hle hsc hcut hno ⊢
  obtain ⟨ts, m⟩ := q
  simp only at hle hsc hcut hno ⊢
  have hl : ts.length ≤ 1048576 := by omega
  have HF := Lib.hid h.base
  have HK : Hid (∀ (w1 : World) (ao : Option Addr) (cap : Nat), Texts w1 ao cap ts → (∀ g, ao = some ⟨g, 0, none⟩ → w.heap.size ≤ g) → Below w.heap.size w w1 → At w1 (fun k => F k ∨ rowOf ao k) D d) := Lib.hid (by
    intro w1 ao cap t1 hg g1
    refine h.mono (G := fun _ => False) (Keeps.of_below g1 fun _ q => q.1) (fun _ q => q.elim) _ fun k q => ?_
    rcases q with q | q
    · exact .inl q
    · refine .inr ⟨hg k q, ?_⟩
      rcases t1 with ⟨rfl, _⟩ | ⟨g', rfl, h1, _⟩
      · cases q
      · injection q with e
        injection e with e _ _
        omega)
  have HS := Lib.hid hsc; have HC := Lib.hid hct; have HN := Lib.hid hno
  clear hsc hct h hno hp hq hgood
  by_cases hlt : m < p.size
  · rw [if_pos hlt]
    go_enter Try.func19, Try.ntmps19
    go_wp2_with fail
    refine HC.out.mono ?_
    rintro e w1 ⟨rfl, rfl⟩
    go_wp2_with fail
    refine HS.out.mono ?_
    rintro e w1 ⟨ao, cap, rfl, t1, hg1, g1⟩
    have A1 := HK.out w1 ao cap t1 hg1 g1
    have T1 := Lib.hid (And.intro t1 (And.intro hg1 g1))
    clear t1 hg1 g1
    have cr := Replace_any A1 (p.extract 0 m)
    have er : d.replace (p.extract 0 m) = d.swap (p.extract 0 m) := by unfold Dk.replace; rw [if_neg HN.out]
    rw [if_neg HN.out, er] at cr
    have CR := Lib.hid cr; clear cr er A1
    go_wp2_with fail
    refine CR.out.mono ?_
    rintro e w2 ⟨rfl, r2, k2⟩
    have cs := Lib.hid (Sync_any r2)
    have K2 := Lib.hid k2
    clear r2 k2
    go_wp2_with fail
    refine cs.out.mono ?_
    rintro e w3 ⟨rfl, r3, k3⟩
    have R3 := Lib.hid (And.intro r3 k3)
    clear r3 k3 cs CR
    go_wp2_with fail
    go_ret2
    exact pj_new ao cap T1.out.1 T1.out.2.1 T1.out.2.2 (K2.out.trans R3.out.2) HF.out R3.out.1
  · rw [if_neg hlt]
    go_enter Try.func19, Try.ntmps19
    go_wp2_with fail
    refine HC.out.mono ?_
    rintro e w1 ⟨rfl, rfl⟩
    go_wp2_with fail
    refine HS.out.mono ?_
    rintro e w1 ⟨ao, cap, rfl, t1, hg1, g1⟩
    have A1 := Lib.hid (HK.out w1 ao cap t1 hg1 g1)
    have T1 := Lib.hid (And.intro t1 (And.intro hg1 g1))
    clear t1 hg1 g1
    go_wp2_with fail
    go_ret2
    exact pj_new ao cap T1.out.1 T1.out.2.1 T1.out.2.2 (Keeps.refl _ _) HF.out A1.out

end Go.Proofs.Ytcjpednhefeboaa
