/- A list of texts that the call gathers: one more, and where it lies then; a disk of frames. -/
import Derived.Test.YtcjpednhefeboaaJP
namespace Go.Proofs.Ytcjpednhefeboaa
open Go.RowKit
set_option linter.unusedVariables false

/-- The texts gathered so far, in a row of the call's own. -/
def Gath (w : World) (B : Nat) (ao : Option Addr) (cap : Nat) (ts : List ByteArray) : Prop := w.ownsRow B 9 1 (.slice ao ts.length cap) ts.length (ts.map Value.string)

theorem Gath.none_ (w : World) (B : Nat) : Gath w B none 0 [] := World.ownsRow_nil w B _ _
theorem Gath.kept {w w' : World} {B : Nat} {ao : Option Addr} {cap : Nat} {ts : List ByteArray} (h : Gath w B ao cap ts) (hz : w.heap.size ≤ w'.heap.size) (hb : ∀ g, rowOf ao g → w'.heap[g]? = w.heap[g]?) : Gath w' B ao cap ts := by
  refine ⟨h.1, ?_⟩
  rcases h.2 with hn | ⟨g, cap', cur, hv, hbg, hg, rest⟩
  · exact .inl hn
  · refine .inr ⟨g, cap', cur, hv, hbg, ?_, rest⟩
    injection hv with e _ _
    rw [hb g e]; exact hg
theorem Gath.lt {w : World} {B : Nat} {ao : Option Addr} {cap : Nat} {ts : List ByteArray} (h : Gath w B ao cap ts) : ∀ g, rowOf ao g → B ≤ g ∧ g < w.heap.size := by
  intro g hg
  have := World.ownsRow.lt h g
  unfold rowOf at hg
  subst hg
  exact this rfl
theorem Gath.texts {w : World} {B : Nat} {ao : Option Addr} {cap : Nat} {ts : List ByteArray} (h : Gath w B ao cap ts) (hs : ts.length ≤ 9223372036854775807) : Texts w ao cap ts := by
  obtain ⟨ao', cap', hv, ht, _⟩ := Texts.of_owned h hs
  injection hv with e1 _ e3
  subst e1 e3
  exact ht

theorem gath_push {w : World} {B : Nat} {ao : Option Addr} {cap : Nat} {ts : List ByteArray} (h : Gath w B ao cap ts) (hB : B ≤ w.heap.size) (hl : ts.length ≤ 1048576) (x : ByteArray) :
    ∃ ao' cap' w', (Builtin.append_ #[23, 23] 23 #[.slice ao ts.length cap, .slice (some ⟨w.heap.size, 0, none⟩) 1 1]).run Try.prog (w.alloc (.cells #[.string x] 9)) = .ok (.slice ao' (ts.length + 1) cap') w' ∧
      Gath w' B ao' cap' (ts ++ [x]) ∧ w.heap.size ≤ w'.heap.size ∧ (∀ k, k < w.heap.size → ¬ rowOf ao k → w'.heap[k]? = w.heap[k]?) ∧ (∀ k, rowOf ao' k → rowOf ao k ∨ (w.heap.size ≤ k ∧ k < w'.heap.size)) ∧ w'.os = w.os ∧ w'.tape = w.tape ∧ w'.output = w.output := by
  obtain ⟨i, hi, hz0, hz1, hz2⟩ := info_parts text_info
  have hown : (w.alloc (.cells #[.string x] 9)).ownsRow B 9 1 (.slice ao ts.length cap) ts.length (ts.map Value.string) := World.ownsRow.alloc h _
  obtain ⟨v', w', hr, hown', hgrow, _⟩ := run_append_own (P := Try.prog) (w.alloc (.cells #[.string x] 9)) B 23 23 9 i (.string ⟨#[]⟩) 1 16 Try.underlying23 hi hz0 hz1 hz2 rfl (by decide) _ _ _ hown ⟨w.heap.size, 0, none⟩ 1 1 [.string x] rfl (one_cell w _) (one_text x)
    (by unfold maxLen; omega) (by omega) (by simp; omega)
  have hz : (w.alloc (.cells #[.string x] 9)).heap.size = w.heap.size + 1 := by simp
  have hv : ∃ ao' cap', v' = .slice ao' (ts.length + 1) cap' ∧ ∀ k, rowOf ao' k → rowOf ao k ∨ w.heap.size ≤ k := by
    rcases hown.2 with ⟨hn, h0⟩ | ⟨g, cap0, cur, hgv, hbg, hg, hnc, hcm, hcs, htake⟩
    · injection hn with e1 e2 e3
      subst e1 e3
      rw [h0] at hr ⊢
      have hr2 := run_append_nil (P := Try.prog) (w.alloc (.cells #[.string x] 9)) 23 23 9 i (.string ⟨#[]⟩) Try.underlying23 hi hz0 ⟨w.heap.size, 0, none⟩ 1 1 [.string x] (by rw [hz1]; rfl) (one_cell w _) (by decide) (by decide) (by rw [hz2]; decide)
      have := hr.symm.trans hr2
      injection this with e1 _
      exact ⟨_, _, e1, fun k hk => .inr (by unfold rowOf at hk; injection hk with e; injection e with e _ _; omega)⟩
    · injection hgv with e1 e2 e3
      subst e1 e3
      by_cases hroom : ts.length + 1 ≤ cap
      · have hr2 := run_append_room (P := Try.prog) (w.alloc (.cells #[.string x] 9)) 23 23 9 i Try.underlying23 hi g ts.length cap cur hg ⟨w.heap.size, 0, none⟩ 1 1 [.string x] (by rw [hz1]; rfl) (one_cell w _) (one_text x) hroom (by rw [hz1, hcs]; simp only [List.length_cons, List.length_nil]; omega)
        have := hr.symm.trans hr2
        injection this with e1 _
        exact ⟨_, _, e1, fun k hk => .inl hk⟩
      · have holds : ∀ j u, (ts.map Value.string)[j]? = some u → (w.alloc (.cells #[.string x] 9)).cell? ((⟨g, 0, none⟩ : Addr).add j) = some u := hown.cells (g := g) rfl
        have hr2 := run_append_grow (P := Try.prog) (w.alloc (.cells #[.string x] 9)) 23 23 9 i (.string ⟨#[]⟩) Try.underlying23 hi hz0 ⟨g, 0, none⟩ ts.length cap (ts.map Value.string) (by rw [hz1, List.length_map, Nat.mul_one]) holds ⟨w.heap.size, 0, none⟩ 1 1 [.string x] (by rw [hz1]; rfl) (one_cell w _) (by omega) (by omega) (growslice_fits (by omega) (by rw [hz2]; omega))
        have := hr.symm.trans hr2
        injection this with e1 _
        exact ⟨_, _, e1, fun k hk => .inr (by unfold rowOf at hk; injection hk with e; injection e with e _ _; omega)⟩
  obtain ⟨ao', cap', rfl, hrow⟩ := hv
  have hG : Gath w' B ao' cap' (ts ++ [x]) := by
    have := owns_push hown'
    unfold Gath
    rw [List.length_append] at this ⊢
    exact this
  refine ⟨ao', cap', w', hr, hG, by have := hgrow.size; omega, fun k hk hne => ?_, fun k hk => (hrow k hk).imp id fun h => ⟨h, (hG.lt k hk).2⟩, hgrow.os, hgrow.tape, hgrow.output⟩
  refine (hgrow.block k (by omega) fun e => hne ?_).trans (Below.heap_alloc _ _ _ hk)
  rcases hown.2 with ⟨hn, _⟩ | ⟨g, cap0, cur, hgv, _⟩
  · rw [hn] at e; simp [Value.ownBlock] at e
  · rw [hgv] at e
    simp only [Value.ownBlock, Option.some.injEq] at e
    injection hgv with e1 _ _
    unfold rowOf
    rw [e1, e]

namespace Jn
/-- A greatest disk of frames. -/
def full (ts : List ByteArray) : Dk := ⟨1048576, (frames ts).data.toList, (frames ts).data.toList, false⟩
theorem full_none : Dk.new 1048576 = full [] := rfl
theorem app_full (ts : List ByteArray) (h : (frames ts).size ≤ 1048576) (x : ByteArray) : (app (full ts) ts.length x).1 = 0 ∧ x.size ≤ 16384 ∧ (app (full ts) ts.length x).2 = (full (ts ++ [x]), (ts ++ [x]).length) ∧ (frames (ts ++ [x])).size ≤ 1048576 ∨
    (app (full ts) ts.length x).1 ≠ 0 ∧ (app (full ts) ts.length x).2 = (full ts, ts.length) := by
  unfold app
  by_cases hb : 16384 < x.size
  · rw [if_pos hb]; exact .inr ⟨by simp, rfl⟩
  rw [if_neg hb]
  by_cases hf : (full ts).free < (Cr.frame x).size
  · rw [if_pos hf]; exact .inr ⟨by simp, rfl⟩
  rw [if_neg hf]
  refine .inl ⟨rfl, by omega, ?_, ?_⟩
  · have e : ((full ts).put (Cr.frame x)).sync = full (ts ++ [x]) := by
      unfold Dk.sync Dk.settle Dk.put full
      simp only [List.take_length]
      rw [frames_snoc, ba_app]
    rw [e, List.length_append]
    rfl
  · have hfr : (full ts).free = 1048576 - (frames ts).size := by
      unfold Dk.free full
      simp only [Dk.len_data]
    rw [frames_snoc, ByteArray.size_append]
    omega
theorem full_rests (ts : List ByteArray) : Rests (full ts) := ⟨rfl, by simp [Dk.waiting, full]⟩
theorem full_scan (ts : List ByteArray) (h : ∀ t ∈ ts, t.size ≤ 16384) : scan (text (full ts)) = (ts, (frames ts).size) ∧ opened (full ts) = full ts := scan_disk 1048576 ts h
end Jn

/-- What a round of appends carries on: the journal over a disk of the frames of what is gathered. -/
structure Run (C : JC) (w0 w : World) (j D : Nat) (ao : Option Addr) (cap : Nat) (ts : List ByteArray) : Prop where
  a : C.At w (fun q => q < w0.heap.size ∨ rowOf ao q) j D (Jn.full ts) ts.length
  r : Gath w w0.heap.size ao cap ts
  g : Below w0.heap.size w0 w
  small : ∀ t ∈ ts, t.size ≤ 16384
  sz : (Jn.frames ts).size ≤ 1048576

theorem Run.drewN {C : JC} {w0 w : World} {j D : Nat} {ao : Option Addr} {cap : Nat} {ts : List ByteArray} (h : Run C w0 w j D ao cap ts) (n : Nat) : Run C w0 (w.drewN n) j D ao cap ts :=
  ⟨C.mono h.a (G := fun _ => False) ((Keeps.refl _ _).drewN n) (fun _ q => q.elim) fun k q => .inl q, h.r, below_drewN h.g n, h.small, h.sz⟩
/-- An append that is refused. -/
theorem Run.same {C : JC} {w0 w w2 : World} {j D : Nat} {ao : Option Addr} {cap : Nat} {ts : List ByteArray} (h : Run C w0 w j D ao cap ts) (a : C.At w2 (fun q => q < w0.heap.size ∨ rowOf ao q) j D (Jn.full ts) ts.length) (k : Keeps (fun q => q < w0.heap.size ∨ rowOf ao q) w w2) : Run C w0 w2 j D ao cap ts :=
  ⟨a, h.r.kept k.size fun g hg => k.block g (.inr hg), h.g.trans (k.below fun _ h => .inl h), h.small, h.sz⟩
/-- One that is not; then the list's own. -/
theorem Run.push {C : JC} {w0 w w2 w3 : World} {j D : Nat} {ao ao' : Option Addr} {cap cap' : Nat} {ts : List ByteArray} {x : ByteArray} (h : Run C w0 w j D ao cap ts) (a : C.At w2 (fun q => q < w0.heap.size ∨ rowOf ao q) j D (Jn.full (ts ++ [x])) (ts ++ [x]).length) (k : Keeps (fun q => q < w0.heap.size ∨ rowOf ao q) w w2)
    (hx : x.size ≤ 16384) (hsz : (Jn.frames (ts ++ [x])).size ≤ 1048576) (r : Gath w3 w0.heap.size ao' cap' (ts ++ [x])) (hz : w2.heap.size ≤ w3.heap.size) (hb : ∀ k, k < w2.heap.size → ¬ rowOf ao k → w3.heap[k]? = w2.heap[k]?) (hr : ∀ k, rowOf ao' k → rowOf ao k ∨ (w2.heap.size ≤ k ∧ k < w3.heap.size))
    (ho : w3.os = w2.os) (ht : w3.tape = w2.tape) (hp : w3.output = w2.output) : Run C w0 w3 j D ao' cap' (ts ++ [x]) := by
  have g2 := h.g.trans (k.below fun _ h => .inl h)
  have hlt := h.r.lt
  refine ⟨C.mono a (G := rowOf ao) ⟨ho, ht, hp, hz, fun q hq => hb q hq.1 hq.2⟩ (fun q hq => .inr hq) fun q hq => hq.elim (fun h => .inl (.inl h)) fun h => (hr q h).imp .inr id, r, g2.trans ⟨ho, ht, hp, hz, fun q hq => hb q (Nat.lt_of_lt_of_le hq g2.size) fun e => by have := (hlt q e).1; omega⟩, fun t ht => ?_, hsz⟩
  rcases List.mem_append.1 ht with q | q
  · exact h.small t q
  · simp only [List.mem_singleton] at q; subst q; exact hx

end Go.Proofs.Ytcjpednhefeboaa
