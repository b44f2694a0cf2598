/- The statement that plays a journal beside the plain answer's, over a journal that keeps its contracts. -/
import Derived.Test.YtcjpednhefeboaaJB
import Derived.Test.YtcjpednhefeboaaHeld
import Derived.BigQuiet
namespace Go.Proofs.Ytcjpednhefeboaa
open Go.RowKit
set_option linter.unusedVariables false

theorem At.mono' {w w' : World} {F : Nat → Prop} {D X : Nat} {d : Dk} (h : At w F D d) (hX : F X) (g : Keeps (fun k => ¬ k = X) w w') : At w' F D d :=
  h.mono (G := fun k => k = X) (g.mono fun k hk => hk.2) (fun k hk => hk ▸ hX) F fun k hk => .inl hk
theorem At.grow {w w' : World} {F : Nat → Prop} {D : Nat} {d : Dk} (h : At w F D d) (g : Below w.heap.size w w') (X : Nat) (h1 : w.heap.size ≤ X) (h2 : X < w'.heap.size) : At w' (fun k => F k ∨ k = X) D d :=
  h.mono (G := fun _ => False) (Keeps.of_below g fun _ hk => hk.1) (fun _ hk => hk.elim) _ fun k hk => hk.imp id fun e => by subst e; exact ⟨h1, h2⟩

namespace Jn
/-- Nothing waits, nothing is being replaced. -/
def Rests (d : Dk) : Prop := d.repl = false ∧ d.waiting = 0
theorem Rests.sync (d : Dk) : Rests d.sync := ⟨rfl, by simp [Dk.waiting, Dk.sync, Dk.settle]⟩
theorem Rests.opened {d : Dk} (h : Rests d) : Rests (opened d) := by
  unfold Jn.opened
  split
  · exact Rests.sync _
  · exact h
theorem Rests.app {d : Dk} (h : Rests d) (N : Nat) (s : ByteArray) : Rests (app d N s).2.1 := by
  unfold Jn.app
  split
  · exact h
  · split
    · exact h
    · exact Rests.sync _
theorem app_count (d : Dk) (N : Nat) (s : ByteArray) : (app d N s).2.2 ≤ N + 1 := by
  unfold app
  split
  · simp
  · split <;> simp
theorem text_small {d : Dk} (h : d.Good) : (text d).size ≤ 1048576 := by
  have h1 := h.sLe; have h2 := h.sz
  have h3 : (text d).size = d.S.length := arr_size d.S
  omega
end Jn

theorem Write_some {w : World} {F : Nat → Prop} {D : Nat} {d : Dk} (h : At w F D d) (s : ByteArray) : Calls Try.prog 15 #[.pointer (some ⟨D, 0, none⟩), .string s] w fun e w' => (∃ v, e = .returned (.int .i64 v)) ∧ At w' F D (d.write s) ∧ Keeps F w w' :=
  (Write_any h s).mono fun _ _ ⟨he, h⟩ => ⟨⟨_, he⟩, h⟩
theorem rdWrite_some {w : World} {X : Nat} {d : Dk} (h : Rat w X d) (s : ByteArray) : Calls Try.prog 16 #[.pointer (some ⟨X, 0, none⟩), .string s] w fun e w' => (∃ v, e = .returned (.int .i64 v)) ∧ Rat w' X (d.write s) ∧ Keeps (fun k => ¬ k = X) w w' :=
  (rdWrite_any h s).mono fun _ _ ⟨he, h⟩ => ⟨⟨_, he⟩, h⟩
theorem Lst.drewN {w : World} {ao : Option Addr} {len cap bb oo : Nat} {S : Nat → ByteArray} (h : Lst w ao len cap bb oo S) (n : Nat) : Lst (w.drewN n) ao len cap bb oo S := h.kept (Nat.le_refl _) fun _ => rfl
theorem At.drewN' {w : World} {F : Nat → Prop} {D : Nat} {d : Dk} (h : At w F D d) (n : Nat) : At (w.drewN n) F D d := h
theorem content_quiet {w : World} {F : Nat → Prop} {D : Nat} {d : Dk} (h : At w F D d) (n : Nat) : Calls Try.prog 21 #[.pointer (some ⟨D, 0, none⟩)] (w.drewN n) fun e w' => e = .returned (.string (Jn.text d)) ∧ ∃ m, w' = w.drewN m :=
  (Content_any (h.drewN' n)).mono fun _ _ ⟨he, hw⟩ => ⟨he, n, hw.symm⟩

/-- Two journals beside each other: the program's, the plain answer's. -/
structure Pair (C : JC) (w0 w : World) (j D Jr X N : Nat) (d : Dk) : Prop where
  a : C.At w (fun k => k < w0.heap.size ∨ k = X ∨ k = Jr) j D d N
  b : Rja w Jr X d N
  g : Below w0.heap.size w0 w
  out : w0.heap.size ≤ X ∧ w0.heap.size ≤ Jr

theorem Pair.drewN {C : JC} {w0 w : World} {j D Jr X N : Nat} {d : Dk} (h : Pair C w0 w j D Jr X N d) (n : Nat) : Pair C w0 (w.drewN n) j D Jr X N d :=
  ⟨C.mono h.a (G := fun _ => False) ((Keeps.refl _ _).drewN n) (fun _ q => q.elim) fun k q => .inl q, h.b.drewN n, below_drewN h.g n, h.out⟩

theorem Pair.turn {C : JC} {w0 w2 w3 : World} {j D Jr X N' : Nat} {d' : Dk} (ha : C.At w2 (fun k => k < w0.heap.size ∨ k = X ∨ k = Jr) j D d' N') (g : Below w0.heap.size w0 w2) (out : w0.heap.size ≤ X ∧ w0.heap.size ≤ Jr) (r : Rja w3 Jr X d' N') (k : Keeps (fun k => k < w2.heap.size ∧ ¬ k = X ∧ ¬ k = Jr) w2 w3) : Pair C w0 w3 j D Jr X N' d' :=
  ⟨C.mono ha (G := fun q => q = X ∨ q = Jr) (k.mono fun q hq => ⟨hq.1, fun e => hq.2 (.inl e), fun e => hq.2 (.inr e)⟩) (fun q hq => .inr hq) fun q hq => .inl hq, r, g.trans (k.below fun q hq => ⟨Nat.lt_of_lt_of_le hq g.size, by omega, by omega⟩), out⟩
theorem Pair.cell {C : JC} {w0 w2 w3 : World} {j D Jr X N : Nat} {d : Dk} (h : Pair C w0 w3 j D Jr X N d) (g : Below w0.heap.size w0 w2) {b o : Nat} {v : Value} (hb : b < w0.heap.size) (c : w2.cell? ⟨b, o, none⟩ = some v) : w3.cell? ⟨b, o, none⟩ = some v :=
  (h.g.cell (p := ⟨b, o, none⟩) hb).trans ((g.cell (p := ⟨b, o, none⟩) hb).symm.trans c)

set_option maxRecDepth 8000 in
set_option maxHeartbeats 20000000 in
theorem JournalPlays_walk (C : JC) (size : Int) (s : ByteArray) {w : World} {ao : Option Addr} {len cap bb oo : Nat} {S : Nat → ByteArray} (l : Lst w ao len cap bb oo S) (hb : ∀ i, i < len → (S i).size ≤ 140737488351232) :
    Calls Try.prog 4 #[.int .i64 size, .string s, .slice ao len cap] w (RetBelow (.bool true) w) := by
  have a := Lib.hid (jAwake_any C)
  have cf := Lib.hid (tFew_any l hb)
  have L := Lib.hid l
  clear l hb
  obtain ⟨z, hz⟩ : ∃ z : Int, (s.size : Int) = z := ⟨_, rfl⟩
  by_cases hbig : 60000 < z
  · go_enter Try.func4, Try.ntmps4
    go_wp2_with fail
    refine (a.out _).mono ?_
    rintro e w1 ⟨rfl, g⟩
    have G := Lib.hid g; clear g
    go_wp2_with fail
    go_ret
    exact ⟨rfl, G.out⟩
  go_enter Try.func4, Try.ntmps4
  go_wp2_with fail
  refine cf.out.mono ?_
  rintro e w1 ⟨⟨b, rfl, hfew⟩, rfl⟩
  clear cf
  rcases b with _ | _
  · clear hfew
    go_wp2_with fail
    refine (a.out _).mono ?_
    rintro e w1 ⟨rfl, g⟩
    have G := Lib.hid g; clear g
    go_wp2_with fail
    go_ret
    exact ⟨rfl, G.out⟩
  have h60 := (hfew rfl).2
  clear hfew
  have c := Lib.hid (New_any (F := fun k => k < w.heap.size) size w (fun _ h => h))
  go_wp2_with fail
  refine c.out.mono ?_
  rintro e w1 ⟨rfl, h1, g1⟩
  have H1 := Lib.hid (And.intro h1 g1); clear h1 g1 c
  have c := Lib.hid (rdNew_any size w1)
  go_wp2_with fail
  refine c.out.mono ?_
  rintro e w2 ⟨rfl, r2, g2⟩
  have h2 := H1.out.1.grow g2 w1.heap.size (Nat.le_refl _) r2.lt
  have H2 := Lib.hid (And.intro r2 (H1.out.2.trans (g2.mono H1.out.2.size)))
  have c' := Lib.hid (Write_some h2 s); clear h2 r2 g2 c
  have hX : w.heap.size ≤ w1.heap.size := H1.out.2.size
  clear H1
  obtain ⟨X, hXe⟩ : ∃ X, w1.heap.size = X := ⟨_, rfl⟩
  rw [hXe] at H2 c' hX ⊢
  clear hXe
  have hF2 : ∀ k, k < w.heap.size ∨ k = X → k < w2.heap.size := fun k hk => hk.elim (fun h => Nat.lt_of_lt_of_le h H2.out.2.size) fun h => h ▸ H2.out.1.lt
  go_wp2_with fail
  refine c'.out.mono ?_
  rintro e w3 ⟨⟨v1, rfl⟩, h3, k3⟩
  have H3 := Lib.hid (And.intro h3 (And.intro (H2.out.1.block (k3.block X (.inr rfl))) (H2.out.2.trans (k3.below fun _ h => .inl h)))); clear h3 k3 c'
  clear H2
  have c := Lib.hid (rdWrite_some H3.out.2.1 s)
  go_wp2_with fail
  refine c.out.mono ?_
  rintro e w4 ⟨⟨v2, rfl⟩, r4, k4⟩
  have H4 := Lib.hid (And.intro (H3.out.1.mono' (.inr rfl) k4) (And.intro r4 (H3.out.2.2.trans (k4.below fun j hj => by omega)))); clear r4 k4 c H3
  have hG : ((Dk.new size).write s).Good := H4.out.2.1.2
  obtain ⟨d1, hd1⟩ : ∃ d1, (Dk.new size).write s = d1 := ⟨_, rfl⟩
  rw [hd1] at H4 hG
  clear hd1
  have c := Lib.hid (Sync_any H4.out.1)
  go_wp2_with fail
  refine c.out.mono ?_
  rintro e w5 ⟨rfl, h5, k5⟩
  have H5 := Lib.hid (And.intro h5 (And.intro (H4.out.2.1.block (k5.block X (.inr rfl))) (H4.out.2.2.trans (k5.below fun _ h => .inl h)))); clear h5 k5 c H4
  have c := Lib.hid (rdSync_any H5.out.2.1)
  go_wp2_with fail
  refine c.out.mono ?_
  rintro e w6 ⟨rfl, r6, k6⟩
  have H6 := Lib.hid (And.intro (H5.out.1.mono' (.inr rfl) k6) (And.intro r6 (H5.out.2.2.trans (k6.below fun j hj => by omega)))); clear r6 k6 c H5
  have hR : Jn.Rests d1.sync := Jn.Rests.sync d1
  have hG' := hG.sync
  obtain ⟨d2, hd2⟩ : ∃ d2, d1.sync = d2 := ⟨_, rfl⟩
  rw [hd2] at H6 hR hG'
  clear hd2 hG
  have hRO := hR.opened
  have hGO := Jn.opened_good hG'
  have hts := Jn.scan_le (Jn.text d2)
  have htz := Jn.text_small hG'
  have c := Lib.hid (C.open_ H6.out.1)
  go_wp2_with fail
  refine c.out.mono ?_
  rintro e w7 ⟨j, ga, gc, rfl, j7, t7, hj7, hn7, k7⟩
  have hX7 := H6.out.2.1.lt
  have H7 := Lib.hid (And.intro j7 (And.intro (H6.out.2.1.block (k7.block X (.inr rfl))) (And.intro (H6.out.2.2.trans (k7.below fun _ h => .inl h)) (And.intro t7 (fun g (e : ga = some ⟨g, 0, none⟩) => Nat.lt_of_lt_of_le hX7 (hn7 g e)))))); clear j7 t7 hj7 hn7 k7 c H6
  have c := Lib.hid (rjOpen_any H7.out.2.1)
  go_wp2_with fail
  refine c.out.mono ?_
  rintro e w8 ⟨Jr, wa, wc, rfl, r8, t8, hJ8, hn8, k8⟩
  have hPa := C.mono H7.out.1 (G := fun k => k = X) (K := fun k => k < w.heap.size ∨ k = X ∨ k = Jr) k8 (fun k e => .inl (.inr e)) fun k hk => hk.elim (fun h => .inl (.inl (.inl h))) fun h => h.elim (fun h => .inl (.inl (.inr h))) fun h => .inr (h ▸ ⟨hJ8, r8.lt⟩)
  have hg8 : Below w.heap.size w w8 := H7.out.2.2.1.trans (k8.below fun k hk => ⟨Nat.lt_of_lt_of_le hk H7.out.2.2.1.size, by omega⟩)
  have P8 : Hid (Pair C w w8 j w.heap.size Jr X (Jn.scan (Jn.text d2)).1.length (Jn.opened d2)) := Lib.hid ⟨hPa, r8, hg8, hX, Nat.le_trans H7.out.2.2.1.size hJ8⟩
  obtain ⟨ba, la, _⟩ := (H7.out.2.2.2.1.kept k8.size fun g e hl => k8.block g ⟨hl, by have := H7.out.2.2.2.2 g e; omega⟩).lst
  obtain ⟨bb', lb', _⟩ := t8.lst
  have cs := fun n => Calls.quiet_of (Same_any (la.drewN n) (lb'.drewN n))
  have ct := fun n => content_quiet (C.disk P8.out.a) n
  have hc1 := P8.out.b.disk.1.c1
  change w8.cell? _ = some (.string (Jn.text (Jn.opened d2))) at hc1
  rw [decide_eq_true rfl] at cs
  obtain ⟨n0, hn0⟩ : ∃ n0, (Jn.scan (Jn.text d2)).1.length = n0 := ⟨_, rfl⟩
  obtain ⟨d3, hd3⟩ : ∃ d3, Jn.opened d2 = d3 := ⟨_, rfl⟩
  rw [hn0] at cs P8 hts ⊢
  rw [hd3] at P8 hRO hGO ct hc1
  obtain ⟨p, hp⟩ : ∃ p, Jn.text d3 = p := ⟨_, rfl⟩
  rw [hp] at ct hc1
  have hnb : n0 ≤ 1048576 := by omega
  have CS := Lib.hid cs; have CT := Lib.hid ct
  clear cs ct la lb' hp hd3 hn0 hts htz hG' hGO hR t8 r8 k8 hJ8 hn8 hPa hg8 H7 hX7 c
  go_wp2_with fail
  go_quiet (first | (go_at_call 11; with_reducible exact CS.out _) | (go_at_call 21; with_reducible exact CT.out _))
  go_wp2_with fail
  go_loopw [13] (fun i wr => ∃ (k : Nat) (d : Dk) (N : Nat), k ≤ len ∧ i = .int .i64 k ∧ Hid (Pair C w wr j w.heap.size Jr X N d ∧ Jn.Rests d ∧ N ≤ 1048576 + k)) (fun i _ => len - (intOf i).toNat)
  case atStart => exact ⟨0, d3, n0, Nat.zero_le _, rfl, P8.out.drewN _, hRO, hnb⟩
  case round =>
    obtain ⟨k, d, N, hk, rfl, hd⟩ := hrel
    clear P8 CS CT hc1 hRO hnb
    by_cases hlt : k < len
    · have hidx := L.out.idx k hlt
      have hcell := (L.out.below hd.out.1.g).at0 k hlt
      have hbb : bb < w.heap.size := L.out.lt (by omega)
      obtain ⟨x, hx⟩ : ∃ x, S k = x := ⟨_, rfl⟩
      rw [hx] at hcell
      have ca := C.append (hd.out.1.drewN 1).a x (by have := hd.out.2.2; omega)
      have hRa := hd.out.2.1.app N x
      have hNa := Jn.app_count d N x
      have hkeep : ∀ w2, Keeps (fun q => q < w.heap.size ∨ q = X ∨ q = Jr) (wr.drewN 1) w2 → w2.cell? ⟨bb, oo + k, none⟩ = some (.string x) ∧ Rja w2 Jr X d N ∧ Below w.heap.size w w2 := fun w2 g =>
        ⟨(World.cell?_of_block (w := wr.drewN 1) (g.block bb (.inl hbb))).trans hcell, (hd.out.1.b.drewN 1).block (g.block Jr (.inr (.inr rfl))) (g.block X (.inr (.inl rfl))), (below_drewN hd.out.1.g 1).trans (g.below fun _ h => .inl h)⟩
      have hcb := fun w2 (h : Rja w2 Jr X d N) => rjAppend_any h x (by have := hd.out.2.2; omega)
      obtain ⟨r, hr⟩ : ∃ r, Jn.app d N x = r := ⟨_, rfl⟩
      rw [hr] at ca hRa hNa hcb
      obtain ⟨v, d', N'⟩ := r
      simp only at ca hRa hNa hcb
      have hw0 := hRa.2
      have CA := Lib.hid ca; have HK := Lib.hid hkeep; have CB := Lib.hid hcb; have HR := Lib.hid hRa; have HN := Lib.hid hNa; have HW := Lib.hid hw0
      clear ca hkeep hcb hRa hNa hr hx hw0
      go_wp2_with fail
      refine wp_region_held_drew (S := fun w' => w'.cell? ⟨bb, oo + k, none⟩ = some (.string x)) (by kernel_rfl) hcell (fun hHeld => ?_)
      refine pre_take (v := ?v0) 0 rfl (by kernel_rfl) (by kernel_rfl) (by kernel_rfl) (fun _ _ _ h => h) (.inl ⟨by rfl, ?hy0⟩) (by assumption) ?rest0
      case hy0 => intro w hSw; (try go_simp); (try with_reducible rfl)
      try simp only [Act.put, List.setIfInBounds_toArray, List.set_cons_zero, List.set_cons_succ]
      refine pre_take (v := ?v1) 1 rfl (by kernel_rfl) (by kernel_rfl) (by kernel_rfl) (fun _ _ _ h => h) (.inl ⟨by rfl, ?hy1⟩) (by assumption) ?rest1
      case hy1 => intro w hSw; (try go_simp); (try with_reducible rfl)
      try simp only [Act.put, List.setIfInBounds_toArray, List.set_cons_zero, List.set_cons_succ]
      refine pre_take (v := ?v2) 2 rfl (by kernel_rfl) (by kernel_rfl) (by kernel_rfl) (fun _ _ _ h => h) (.inl ⟨by rfl, ?hy2⟩) (by assumption) ?rest2
      case hy2 => intro w hSw; (try go_simp); (try with_reducible rfl)
      try simp only [Act.put, List.setIfInBounds_toArray, List.set_cons_zero, List.set_cons_succ]
      refine pre_take (v := ?v3) 3 rfl (by kernel_rfl) (by kernel_rfl) (by kernel_rfl) (fun _ _ _ h => h) (.inl ⟨by rfl, ?hy3⟩) (by assumption) ?rest3
      case hy3 => intro w hSw; (try go_simp); (try with_reducible rfl)
      try simp only [Act.put, List.setIfInBounds_toArray, List.set_cons_zero, List.set_cons_succ]
      refine pre_take (v := ?v4) 4 rfl (by kernel_rfl) (by kernel_rfl) (by kernel_rfl) (fun _ _ _ h => h) (.inl ⟨by rfl, ?hy4⟩) (by assumption) ?rest4
      case hy4 => intro w hSw; (try go_simp); (try with_reducible rfl)
      try simp only [Act.put, List.setIfInBounds_toArray, List.set_cons_zero, List.set_cons_succ]
      refine pre_take (v := ?v6) 6 rfl (by kernel_rfl) (by kernel_rfl) (by kernel_rfl) (fun _ _ _ h => h) (.inl ⟨by rfl, ?hy6⟩) (by assumption) ?rest6
      case hy6 => intro w hSw; (try go_simp); (try with_reducible rfl)
      try simp only [Act.put, List.setIfInBounds_toArray, List.set_cons_zero, List.set_cons_succ]
      refine pre_take (v := ?v7) 7 rfl (by kernel_rfl) (by kernel_rfl) (by kernel_rfl) (fun _ _ _ h => h) (.inl ⟨by rfl, ?hy7⟩) (by assumption) ?rest7
      case hy7 => intro w hSw; (try go_simp); (try with_reducible rfl)
      try simp only [Act.put, List.setIfInBounds_toArray, List.set_cons_zero, List.set_cons_succ]
      refine pre_take (v := ?v8) 8 rfl (by kernel_rfl) (by kernel_rfl) (by kernel_rfl) (fun _ _ _ h => h) (.inl ⟨by rfl, ?hy8⟩) (by assumption) ?rest8
      case hy8 => intro w hSw; (try go_simp); (try with_reducible rfl)
      try simp only [Act.put, List.setIfInBounds_toArray, List.set_cons_zero, List.set_cons_succ]
      refine pre_take (v := ?v9) 9 rfl (by kernel_rfl) (by kernel_rfl) (by kernel_rfl) (fun _ _ _ h => h) (.inl ⟨by rfl, ?hy9⟩) (by assumption) ?rest9
      case hy9 => intro w hSw; (try go_simp); (try with_reducible rfl)
      try simp only [Act.put, List.setIfInBounds_toArray, List.set_cons_zero, List.set_cons_succ]
      refine pre_take (v := ?v10) 10 rfl (by kernel_rfl) (by kernel_rfl) (by kernel_rfl) (fun _ _ _ h => h) (.inl ⟨by rfl, ?hy10⟩) (by assumption) ?rest10
      case hy10 => intro w hSw; (try go_simp); (try with_reducible rfl)
      try simp only [Act.put, List.setIfInBounds_toArray, List.set_cons_zero, List.set_cons_succ]
      refine pre_call 5 rfl (by kernel_rfl) ?_
      intro K1 hK1
      go_simp
      refine CA.out.mono ?_
      rintro e w2 ⟨rfl, j2, k2⟩
      have y2 := (HK.out w2 k2).1
      have J2 := Lib.hid (And.intro j2 (HK.out w2 k2).2)
      refine hK1.out _ _ y2 (fun _ => ?_)
      clear hK1 K1 j2 k2 hHeld
      try simp only [Act.put, List.setIfInBounds_toArray, List.set_cons_zero, List.set_cons_succ]
      refine pre_call 11 rfl (by kernel_rfl) ?_
      intro K2 hK2
      go_simp
      refine (CB.out w2 J2.out.2.1).mono ?_
      rintro e w3 ⟨rfl, r3, k3⟩
      have P3 := Lib.hid (Pair.turn J2.out.1 J2.out.2.2 hd.out.1.out r3 k3)
      have y3 := P3.out.cell J2.out.2.2 hbb y2
      have z1 := r3.c1
      have z2 := r3.disk.1.c1
      refine hK2.out _ _ y3 (fun _ => ?_)
      clear hK2 K2 r3 k3
      try simp only [Act.put, List.setIfInBounds_toArray, List.set_cons_zero, List.set_cons_succ]
      refine held_quiet 12 (fun w' => ∃ n, w' = w3.drewN n) rfl (by kernel_rfl) (by kernel_rfl) (fun w' ⟨n, e⟩ => e ▸ y3) ⟨0, rfl⟩ ?_
      simp only [List.drop_succ_cons, List.drop_zero]
      have c1 := fun n => ((C.records (P3.out.drewN n).a).mono fun _ _ ⟨he, hw⟩ => (⟨he, n, hw.symm⟩ : _ ∧ ∃ m, _ = w3.drewN m))
      have c2 := fun n => content_quiet (C.disk P3.out.a) n
      have c3 := fun n => Calls.quiet_of (Waiting_any ((C.disk P3.out.a).drewN' n))
      rw [HW.out] at c3
      change w3.cell? _ = some (.string (Jn.text d')) at z2
      obtain ⟨p, hp⟩ : ∃ p, Jn.text d' = p := ⟨_, rfl⟩
      rw [hp] at c2 z2
      have C1 := Lib.hid c1; have C2 := Lib.hid c2; have C3 := Lib.hid c3
      have E : Hid (∀ n, Pair C w (w3.drewN n) j w.heap.size Jr X N' d' ∧ Jn.Rests d' ∧ N' ≤ 1048576 + (k + 1)) := Lib.hid fun n => ⟨P3.out.drewN n, HR.out, by have := HN.out; have := hd.out.2.2; omega⟩
      clear c1 c2 c3 hp CA HK CB HR HN HW J2 y2 hcell
      repeat (go_big_quiet_step ((first | (go_at_call 24; with_reducible exact C1.out _) | (go_at_call 21; with_reducible exact C2.out _) | (go_at_call 25; with_reducible exact C3.out _))))
      refine wpQuiet_nil ?_
      intro w' hw'
      obtain ⟨nq, rfl⟩ := hw'
      clear C1 C2 C3 z1 z2 y3 P3
      go_wp2_with fail
      go_roundw
      case rel => exact ⟨k + 1, d', N', by omega, by go_num, E.out nq⟩
      case measure => simp [intOf]; omega
    · have hkl : k = len := by omega
      subst hkl
      have l1 := L.out.below hd.out.1.g
      have ca := C.reset hd.out.1.a l1 (by omega)
      have hkeep : ∀ w2, Keeps (fun q => q < w.heap.size ∨ q = X ∨ q = Jr) wr w2 → Lst w2 ao k cap bb oo S ∧ Rja w2 Jr X d N ∧ Below w.heap.size w w2 := fun w2 g =>
        ⟨L.out.below (hd.out.1.g.trans (g.below fun _ h => .inl h)), hd.out.1.b.block (g.block Jr (.inr (.inr rfl))) (g.block X (.inr (.inl rfl))), hd.out.1.g.trans (g.below fun _ h => .inl h)⟩
      have hcb := fun w2 (h : Rja w2 Jr X d N) (l : Lst w2 ao k cap bb oo S) => rjReset_any h l (by omega)
      obtain ⟨r, hr⟩ : ∃ r, Jn.reset d N k S = r := ⟨_, rfl⟩
      rw [hr] at ca hcb
      obtain ⟨v, d', N'⟩ := r
      simp only at ca hcb
      have CA := Lib.hid ca; have HK := Lib.hid hkeep; have CB := Lib.hid hcb
      clear ca hkeep hcb hr l1
      go_wp2_with fail
      refine CA.out.mono ?_
      rintro e w2 ⟨rfl, j2, k2⟩
      have J2 := Lib.hid (And.intro j2 (HK.out w2 k2))
      clear j2 k2
      go_wp2_with fail
      refine (CB.out w2 J2.out.2.2.1 J2.out.2.1).mono ?_
      rintro e w3 ⟨rfl, r3, k3⟩
      have P3 := Lib.hid (Pair.turn J2.out.1 J2.out.2.2.2 hd.out.1.out r3 k3)
      have z1 := r3.c1
      have z2 := r3.disk.1.c1
      change w3.cell? _ = some (.string (Jn.text d')) at z2
      have c1 := fun n => ((C.records (P3.out.drewN n).a).mono fun _ _ ⟨he, hw⟩ => (⟨he, n, hw.symm⟩ : _ ∧ ∃ m, _ = w3.drewN m))
      have c2 := fun n => content_quiet (C.disk P3.out.a) n
      obtain ⟨p, hp⟩ : ∃ p, Jn.text d' = p := ⟨_, rfl⟩
      rw [hp] at c2 z2
      have C1 := Lib.hid c1; have C2 := Lib.hid c2
      clear c1 c2 hp CA HK CB J2 r3 k3 hd
      go_wp2_with fail
      refine region_quiet_tail 22 (fun w' => ∃ n, w' = w3.drewN n) (by kernel_rfl) (by kernel_rfl) ⟨1, rfl⟩ ?_
      simp only [List.take_succ_cons, List.take_zero, List.drop_succ_cons, List.drop_zero]
      repeat (go_big_quiet_step ((first | (go_at_call 24; with_reducible exact C1.out _) | (go_at_call 21; with_reducible exact C2.out _))))
      refine wpQuiet_nil ?_
      intro w' hw'
      obtain ⟨nq, rfl⟩ := hw'
      go_wp2_with fail
      refine (a.out _).mono ?_
      rintro e w4 ⟨rfl, g⟩
      have G := Lib.hid ((below_drewN P3.out.g nq).trans (g.mono P3.out.g.size)); clear g
      go_wp2_with fail
      go_ret
      exact ⟨rfl, G.out⟩

end Go.Proofs.Ytcjpednhefeboaa
