/- A deed with both disks: the plain one is fresh and of size 0; what is answered is not asked for. -/
import Derived.Test.YtigampjbhicfcaaDskH
import Derived.Deep.RegionHeld3
import Derived.Deep.DeepCutAuto
namespace Go.Proofs.Ytigampjbhicfcaa
open Go.RowKit
set_option linter.unusedVariables false

namespace Dk
/-- What a deed makes of a disk. -/
def deed (d : Dk) (k n : Int) (s : ByteArray) : Dk := if k = 0 then d.write s else if k = 1 then d.sync else if k = 2 then d.replace s else d.crash n
theorem Good.deed {d : Dk} (h : d.Good) (k n : Int) (s : ByteArray) : (d.deed k n s).Good := by
  unfold Dk.deed
  split
  · exact h.write s
  · split
    · exact h.sync
    · split
      · exact h.replace s
      · exact h.crash n
end Dk

/-- What the last test of a deed asks, in whatever order. -/
structure Asked (w : World) (D X : Nat) (C : ByteArray) (W V : Int) : Prop where
  cC : ∀ n, Calls Try.prog 10 #[.pointer (some ⟨D, 0, none⟩)] (w.drewN n) fun e w' => e = .returned (.string C) ∧ ∃ m, w' = w.drewN m
  cW : ∀ n, Calls Try.prog 16 #[.pointer (some ⟨D, 0, none⟩)] (w.drewN n) fun e w' => e = .returned (.int .i64 W) ∧ ∃ m, w' = w.drewN m
  cF : ∀ n, Calls Try.prog 17 #[.pointer (some ⟨D, 0, none⟩)] (w.drewN n) fun e w' => e = .returned (.int .i64 V) ∧ ∃ m, w' = w.drewN m
  cX : ∀ n, Calls Try.prog 23 #[.pointer (some ⟨X, 0, none⟩)] (w.drewN n) fun e w' => e = .returned (.int .i64 0) ∧ ∃ m, w' = w.drewN m

theorem asked {w : World} {F : Nat → Prop} {D X : Nat} {d : Dk} {q : Bool} (h : At w F D d) (x : Nul w X q) : ∃ C W V, Asked w D X C W V :=
  ⟨⟨d.S.toArray⟩, (d.waiting : Int), (d.free : Int), fun n => (Content_any (w := w.drewN n) h).mono fun _ _ ⟨he, hw⟩ => ⟨he, n, hw.symm⟩, fun n => Calls.quiet_of (Waiting_any (w := w.drewN n) h), fun n => Calls.quiet_of (Free_any (w := w.drewN n) h), fun n => Calls.quiet_of (RefFree_any (w := w.drewN n) (x.drewN n))⟩

theorem At.drew {w : World} {F : Nat → Prop} {D : Nat} {d : Dk} (h : At w F D d) : At w.drew F D d := h
/-- A deed's own block beside both disks. -/
theorem deed_enter {w : World} {F : Nat → Prop} {D X : Nat} {d : Dk} (h : At w F D d) (x : Nul w X false) (cs : Array Value) (t : TypeId) : At (w.alloc (.cells cs t)) (fun j => F j ∨ j = w.heap.size) D d ∧ Nul (w.alloc (.cells cs t)) X false :=
  ⟨h.mono (G := fun _ => False) (Keeps.of_below ((Below.refl w.heap.size w).alloc (Nat.le_refl _) _) fun _ hk => hk.1) (fun _ hk => hk.elim) _ fun k hk => hk.imp id fun e => by subst e; simp, Four.block x (Below.heap_alloc _ _ _ x.lt)⟩
/-- Behind d's turn, then x's. -/
theorem deed_turns {w w1 w2 w3 : World} {F : Nat → Prop} {D X : Nat} {q : Bool} {d : Dk} (hF : ∀ k, F k → k < w.heap.size) (hX : F X) (k1 : Keeps F w w1) (hz : w1.heap.size = w.heap.size + 1) (h2 : At w2 (fun j => F j ∨ j = w.heap.size) D d) (g2 : Keeps (fun j => F j ∨ j = w.heap.size) w1 w2) (t : Turns X q w2 w3) :
    At w3 (fun j => F j ∨ j = w.heap.size) D d ∧ Nul w3 X q ∧ At w3 F D d ∧ Keeps (fun j => F j ∧ ¬ j = X) w w3 := by
  have hk : ∀ k, F k → k < w2.heap.size := fun k h => by have := hF k h; have := g2.size; omega
  exact ⟨h2.mono t.2 (fun k e => .inl (e ▸ hX)) _ fun k h => .inl h, t.1, h2.mono t.2 (fun k e => .inl (e ▸ hX)) _ fun k h => .inl (.inl h), (k1.mono fun k h => h.1).trans ((g2.mono fun k h => .inl h.1).trans (t.2.mono fun k h => ⟨hk k h.1, h.2⟩))⟩

set_option maxHeartbeats 1000000 in
theorem Do_sync {w : World} {F : Nat → Prop} {D X : Nat} {d : Dk} (h : At w F D d) (x : Nul w X false) (hX : F X) (n : Int) (s : ByteArray) :
    Calls Try.prog 11 #[.pointer (some ⟨D, 0, none⟩), .pointer (some ⟨X, 0, none⟩), .agg #[.int .i64 1, .int .i64 n, .string s]] w fun e w' => SomeInt e ∧ At w' F D d.sync ∧ Keeps (fun j => F j ∧ ¬ j = X) w w' := by
  have hF := h.base
  obtain ⟨h1, x1⟩ := deed_enter h x #[.int .i64 1, .int .i64 n, .string s] 29
  have k1 : Keeps F w (w.alloc (.cells #[.int .i64 1, .int .i64 n, .string s] 29)) := (Keeps.refl F w).alloc hF _
  have c1 := Lib.hid (Sync_any h1); have X1 := Lib.hid x1; have K1 := Lib.hid k1
  clear h x h1 x1 k1
  go_enter Try.func11, Try.ntmps11
  go_wp2_with fail
  refine c1.out.mono ?_
  rintro e w2 ⟨rfl, h2, g2⟩
  have x2 : Nul w2 X false := Four.block X1.out (g2.block X (.inl hX))
  have c2 := Lib.hid (RefSync_any x2)
  have H2 := Lib.hid h2; have G2 := Lib.hid g2
  clear h2 g2 x2 c1
  go_wp2_with fail
  refine c2.out.mono ?_
  rintro e w3 ⟨rfl, t⟩
  obtain ⟨h3, x3, h4, k4⟩ := deed_turns hF hX K1.out (by simp) H2.out G2.out t
  obtain ⟨C, W, V, ask⟩ := asked h3 x3
  have c1x := x3.c1; have c2x := x3.c2
  have E : Hid (∀ m, At (w3.drewN m) F D d.sync ∧ Keeps (fun j => F j ∧ ¬ j = X) w (w3.drewN m)) := Lib.hid fun m => ⟨h4, k4.drewN m⟩
  have T := Lib.hid ask
  clear t h3 x3 h4 k4 ask c2 H2 G2 K1 X1
  rcases hc : C.toList.isEmpty with _ | _
  · go_wp2_with fail
    go_quiet (first | (go_at_call 10; with_reducible exact T.out.cC _) | (go_at_call 16; with_reducible exact T.out.cW _) | (go_at_call 17; with_reducible exact T.out.cF _) | (go_at_call 23; with_reducible exact T.out.cX _))
    go_wp2_with fail
    all_goals (go_ret; exact ⟨someInt, E.out _⟩)
  · rcases hw : (W == 0) with _ | _
    · go_wp2_with fail
      go_quiet (first | (go_at_call 10; with_reducible exact T.out.cC _) | (go_at_call 16; with_reducible exact T.out.cW _) | (go_at_call 17; with_reducible exact T.out.cF _) | (go_at_call 23; with_reducible exact T.out.cX _))
      go_wp2_with fail
      all_goals (go_ret; exact ⟨someInt, E.out _⟩)
    · go_wp2_with fail
      go_quiet (first | (go_at_call 10; with_reducible exact T.out.cC _) | (go_at_call 16; with_reducible exact T.out.cW _) | (go_at_call 17; with_reducible exact T.out.cF _) | (go_at_call 23; with_reducible exact T.out.cX _))
      go_wp2_with fail
      all_goals (go_ret; exact ⟨someInt, E.out _⟩)

set_option maxHeartbeats 1000000 in
theorem Do_crash {w : World} {F : Nat → Prop} {D X : Nat} {d : Dk} (h : At w F D d) (x : Nul w X false) (hX : F X) (k : Int) (k0 : (k == 0) = false) (k1' : (k == 1) = false) (k2 : (k == 2) = false) (n : Int) (s : ByteArray) :
    Calls Try.prog 11 #[.pointer (some ⟨D, 0, none⟩), .pointer (some ⟨X, 0, none⟩), .agg #[.int .i64 k, .int .i64 n, .string s]] w fun e w' => SomeInt e ∧ At w' F D (d.crash n) ∧ Keeps (fun j => F j ∧ ¬ j = X) w w' := by
  have hF := h.base
  obtain ⟨h1, x1⟩ := deed_enter h x #[.int .i64 k, .int .i64 n, .string s] 29
  have k1 : Keeps F w (w.alloc (.cells #[.int .i64 k, .int .i64 n, .string s] 29)) := (Keeps.refl F w).alloc hF _
  have c1 := Lib.hid (Crash_any h1 n); have X1 := Lib.hid x1; have K1 := Lib.hid k1
  clear h x h1 x1 k1
  go_enter Try.func11, Try.ntmps11
  go_wp2_with fail
  refine c1.out.mono ?_
  rintro e w2 ⟨rfl, h2, g2⟩
  have x2 : Nul w2 X false := Four.block X1.out (g2.block X (.inl hX))
  have y2 : w2.cell? ⟨w.heap.size, 1, none⟩ = some (.int .i64 n) := (World.cell?_of_block (w := w.alloc _) (g2.block w.heap.size (.inr rfl))).trans (World.cell?_alloc_at (w := w) _ _ _ 1 rfl)
  have c2 := Lib.hid (RefCrash_any x2 n)
  have H2 := Lib.hid h2; have G2 := Lib.hid g2
  clear h2 g2 x2 c1
  go_wp2_with fail
  refine c2.out.mono ?_
  rintro e w3 ⟨rfl, t⟩
  obtain ⟨h3, x3, h4, k4⟩ := deed_turns hF hX K1.out (by simp) H2.out G2.out t
  obtain ⟨C, W, V, ask⟩ := asked h3 x3
  have c1x := x3.c1; have c2x := x3.c2
  have E : Hid (∀ m, At (w3.drewN m) F D (d.crash n) ∧ Keeps (fun j => F j ∧ ¬ j = X) w (w3.drewN m)) := Lib.hid fun m => ⟨h4, k4.drewN m⟩
  have T := Lib.hid ask
  clear t h3 x3 h4 k4 ask c2 H2 G2 K1 X1
  rcases hc : C.toList.isEmpty with _ | _
  · go_wp2_with fail
    go_quiet (first | (go_at_call 10; with_reducible exact T.out.cC _) | (go_at_call 16; with_reducible exact T.out.cW _) | (go_at_call 17; with_reducible exact T.out.cF _) | (go_at_call 23; with_reducible exact T.out.cX _))
    go_wp2_with fail
    all_goals (go_ret; exact ⟨someInt, E.out _⟩)
  · rcases hw : (W == 0) with _ | _
    · go_wp2_with fail
      go_quiet (first | (go_at_call 10; with_reducible exact T.out.cC _) | (go_at_call 16; with_reducible exact T.out.cW _) | (go_at_call 17; with_reducible exact T.out.cF _) | (go_at_call 23; with_reducible exact T.out.cX _))
      go_wp2_with fail
      all_goals (go_ret; exact ⟨someInt, E.out _⟩)
    · go_wp2_with fail
      go_quiet (first | (go_at_call 10; with_reducible exact T.out.cC _) | (go_at_call 16; with_reducible exact T.out.cW _) | (go_at_call 17; with_reducible exact T.out.cF _) | (go_at_call 23; with_reducible exact T.out.cX _))
      go_wp2_with fail
      all_goals (go_ret; exact ⟨someInt, E.out _⟩)

set_option maxHeartbeats 1000000 in
theorem Do_write {w : World} {F : Nat → Prop} {D X : Nat} {d : Dk} (h : At w F D d) (x : Nul w X false) (hX : F X) (n : Int) (s : ByteArray) :
    Calls Try.prog 11 #[.pointer (some ⟨D, 0, none⟩), .pointer (some ⟨X, 0, none⟩), .agg #[.int .i64 0, .int .i64 n, .string s]] w fun e w' => SomeInt e ∧ At w' F D (d.write s) ∧ Keeps (fun j => F j ∧ ¬ j = X) w w' := by
  have hF := h.base
  obtain ⟨h1, x1⟩ := deed_enter h x #[.int .i64 0, .int .i64 n, .string s] 29
  have k1 : Keeps F w (w.alloc (.cells #[.int .i64 0, .int .i64 n, .string s] 29)).drew := ((Keeps.refl F w).alloc hF _).drewN 1
  have cY : (w.alloc (.cells #[.int .i64 0, .int .i64 n, .string s] 29)).drew.cell? ⟨w.heap.size, 2, none⟩ = some (.string s) := World.cell?_alloc_at (w := w) _ _ _ 2 rfl
  have hY : ∀ w2, Keeps (fun j => F j ∨ j = w.heap.size) (w.alloc (.cells #[.int .i64 0, .int .i64 n, .string s] 29)).drew w2 → w2.cell? ⟨w.heap.size, 2, none⟩ = some (.string s) ∧ Nul w2 X false :=
    fun w2 g => ⟨(World.cell?_of_block (w := (w.alloc _).drew) (g.block w.heap.size (.inr rfl))).trans cY, Four.block (x1.drewN 1) (g.block X (.inl hX))⟩
  have hY3 : ∀ q w2 w3, w2.cell? ⟨w.heap.size, 2, none⟩ = some (.string s) → Turns X q w2 w3 → w3.cell? ⟨w.heap.size, 2, none⟩ = some (.string s) :=
    fun q w2 w3 c t => (World.cell?_of_block (w := w2) (t.2.block w.heap.size ⟨World.block_lt_of_cell? w2 _ c, fun e => absurd (hF X hX) (by omega)⟩)).trans c
  have c1 := Write_any (w := (w.alloc (.cells #[.int .i64 0, .int .i64 n, .string s] 29)).drew) h1.drew s
  obtain ⟨dv, hdv⟩ : ∃ dv, ((if d.free < s.size then 9 else 0 : Int)) = dv := ⟨_, rfl⟩
  rw [hdv] at c1
  have C1 := Lib.hid c1; have HY := Lib.hid hY; have HY3 := Lib.hid hY3; have K1 := Lib.hid k1
  clear h x h1 x1 k1 c1 hY hY3 cY hdv
  go_enter Try.func11, Try.ntmps11
  go_wp2_with fail
  go_region_held3 (fun w' => w'.cell? ⟨w.heap.size, 2, none⟩ = some (.string s)) (first | assumption | go_keep) (first | (go_at_call 12; refine C1.out.mono ?_; rintro e w2 ⟨rfl, h2, g2⟩; have y2 := (HY.out w2 g2).1; have x2 := Lib.hid (HY.out w2 g2).2; have H2 := Lib.hid h2; have G2 := Lib.hid g2; clear h2 g2) | (go_at_call 19; refine (RefWrite_any x2.out s).mono ?_; rintro e w3 ⟨⟨v, rfl⟩, t⟩; have y3 := HY3.out _ w2 w3 y2 t; have T3 := Lib.hid t; clear t))
  obtain ⟨h3, x3, h4, k4⟩ := deed_turns hF hX K1.out (by simp) H2.out G2.out T3.out
  obtain ⟨C, W, V, ask⟩ := asked h3 x3
  have c1x := x3.c1; have c2x := x3.c2
  have E : Hid (∀ m, At (w3.drewN m) F D (d.write s) ∧ Keeps (fun j => F j ∧ ¬ j = X) w (w3.drewN m)) := Lib.hid fun m => ⟨h4, k4.drewN m⟩
  have T := Lib.hid ask
  clear h3 x3 h4 k4 ask H2 G2 K1 T3 y2 y3 HY HY3 C1
  rcases hok : (dv == v) with _ | _
  · go_wp2_with fail
    go_quiet (fail)
    go_wp2_with fail
    all_goals (go_ret; exact ⟨someInt, E.out _⟩)
  · rcases hc : C.toList.isEmpty with _ | _
    · go_wp2_with fail
      go_quiet (first | (go_at_call 10; with_reducible exact T.out.cC _) | (go_at_call 16; with_reducible exact T.out.cW _) | (go_at_call 17; with_reducible exact T.out.cF _) | (go_at_call 23; with_reducible exact T.out.cX _))
      go_wp2_with fail
      all_goals (go_ret; exact ⟨someInt, E.out _⟩)
    · rcases hw : (W == 0) with _ | _
      · go_wp2_with fail
        go_quiet (first | (go_at_call 10; with_reducible exact T.out.cC _) | (go_at_call 16; with_reducible exact T.out.cW _) | (go_at_call 17; with_reducible exact T.out.cF _) | (go_at_call 23; with_reducible exact T.out.cX _))
        go_wp2_with fail
        all_goals (go_ret; exact ⟨someInt, E.out _⟩)
      · go_wp2_with fail
        go_quiet (first | (go_at_call 10; with_reducible exact T.out.cC _) | (go_at_call 16; with_reducible exact T.out.cW _) | (go_at_call 17; with_reducible exact T.out.cF _) | (go_at_call 23; with_reducible exact T.out.cX _))
        go_wp2_with fail
        all_goals (go_ret; exact ⟨someInt, E.out _⟩)

set_option maxHeartbeats 1000000 in
theorem Do_replace {w : World} {F : Nat → Prop} {D X : Nat} {d : Dk} (h : At w F D d) (x : Nul w X false) (hX : F X) (n : Int) (s : ByteArray) :
    Calls Try.prog 11 #[.pointer (some ⟨D, 0, none⟩), .pointer (some ⟨X, 0, none⟩), .agg #[.int .i64 2, .int .i64 n, .string s]] w fun e w' => SomeInt e ∧ At w' F D (d.replace s) ∧ Keeps (fun j => F j ∧ ¬ j = X) w w' := by
  have hF := h.base
  obtain ⟨h1, x1⟩ := deed_enter h x #[.int .i64 2, .int .i64 n, .string s] 29
  have k1 : Keeps F w (w.alloc (.cells #[.int .i64 2, .int .i64 n, .string s] 29)).drew := ((Keeps.refl F w).alloc hF _).drewN 1
  have cY : (w.alloc (.cells #[.int .i64 2, .int .i64 n, .string s] 29)).drew.cell? ⟨w.heap.size, 2, none⟩ = some (.string s) := World.cell?_alloc_at (w := w) _ _ _ 2 rfl
  have hY : ∀ w2, Keeps (fun j => F j ∨ j = w.heap.size) (w.alloc (.cells #[.int .i64 2, .int .i64 n, .string s] 29)).drew w2 → w2.cell? ⟨w.heap.size, 2, none⟩ = some (.string s) ∧ Nul w2 X false :=
    fun w2 g => ⟨(World.cell?_of_block (w := (w.alloc _).drew) (g.block w.heap.size (.inr rfl))).trans cY, Four.block (x1.drewN 1) (g.block X (.inl hX))⟩
  have hY3 : ∀ q w2 w3, w2.cell? ⟨w.heap.size, 2, none⟩ = some (.string s) → Turns X q w2 w3 → w3.cell? ⟨w.heap.size, 2, none⟩ = some (.string s) :=
    fun q w2 w3 c t => (World.cell?_of_block (w := w2) (t.2.block w.heap.size ⟨World.block_lt_of_cell? w2 _ c, fun e => absurd (hF X hX) (by omega)⟩)).trans c
  have c1 := Replace_any (w := (w.alloc (.cells #[.int .i64 2, .int .i64 n, .string s] 29)).drew) h1.drew s
  obtain ⟨dv, hdv⟩ : ∃ dv, ((if d.size < s.size then 9 else 0 : Int)) = dv := ⟨_, rfl⟩
  rw [hdv] at c1
  have C1 := Lib.hid c1; have HY := Lib.hid hY; have HY3 := Lib.hid hY3; have K1 := Lib.hid k1
  clear h x h1 x1 k1 c1 hY hY3 cY hdv
  go_enter Try.func11, Try.ntmps11
  go_wp2_with fail
  go_region_held3 (fun w' => w'.cell? ⟨w.heap.size, 2, none⟩ = some (.string s)) (first | assumption | go_keep) (first | (go_at_call 14; refine C1.out.mono ?_; rintro e w2 ⟨rfl, h2, g2⟩; have y2 := (HY.out w2 g2).1; have x2 := Lib.hid (HY.out w2 g2).2; have H2 := Lib.hid h2; have G2 := Lib.hid g2; clear h2 g2) | (go_at_call 21; refine (RefReplace_any x2.out s).mono ?_; rintro e w3 ⟨⟨v, rfl⟩, q, t⟩; have y3 := HY3.out _ w2 w3 y2 t; have T3 := Lib.hid t; clear t))
  obtain ⟨h3, x3, h4, k4⟩ := deed_turns hF hX K1.out (by simp) H2.out G2.out T3.out
  obtain ⟨C, W, V, ask⟩ := asked h3 x3
  have c1x := x3.c1; have c2x := x3.c2
  have E : Hid (∀ m, At (w3.drewN m) F D (d.replace s) ∧ Keeps (fun j => F j ∧ ¬ j = X) w (w3.drewN m)) := Lib.hid fun m => ⟨h4, k4.drewN m⟩
  have T := Lib.hid ask
  clear h3 x3 h4 k4 ask H2 G2 K1 T3 y2 y3 HY HY3 C1
  rcases hok : (dv == v) with _ | _
  · go_wp2_with fail
    go_quiet (fail)
    go_wp2_with fail
    all_goals (go_ret; exact ⟨someInt, E.out _⟩)
  · rcases hc : C.toList.isEmpty with _ | _
    · go_wp2_with fail
      go_quiet (first | (go_at_call 10; with_reducible exact T.out.cC _) | (go_at_call 16; with_reducible exact T.out.cW _) | (go_at_call 17; with_reducible exact T.out.cF _) | (go_at_call 23; with_reducible exact T.out.cX _))
      go_wp2_with fail
      all_goals (go_ret; exact ⟨someInt, E.out _⟩)
    · rcases hw : (W == 0) with _ | _
      · go_wp2_with fail
        go_quiet (first | (go_at_call 10; with_reducible exact T.out.cC _) | (go_at_call 16; with_reducible exact T.out.cW _) | (go_at_call 17; with_reducible exact T.out.cF _) | (go_at_call 23; with_reducible exact T.out.cX _))
        go_wp2_with fail
        all_goals (go_ret; exact ⟨someInt, E.out _⟩)
      · go_wp2_with fail
        go_quiet (first | (go_at_call 10; with_reducible exact T.out.cC _) | (go_at_call 16; with_reducible exact T.out.cW _) | (go_at_call 17; with_reducible exact T.out.cF _) | (go_at_call 23; with_reducible exact T.out.cX _))
        go_wp2_with fail
        all_goals (go_ret; exact ⟨someInt, E.out _⟩)

theorem Do_any {w : World} {F : Nat → Prop} {D X : Nat} {d : Dk} (h : At w F D d) (x : Nul w X false) (hX : F X) (k n : Int) (s : ByteArray) :
    Calls Try.prog 11 #[.pointer (some ⟨D, 0, none⟩), .pointer (some ⟨X, 0, none⟩), .agg #[.int .i64 k, .int .i64 n, .string s]] w fun e w' => SomeInt e ∧ At w' F D (d.deed k n s) ∧ Keeps (fun j => F j ∧ ¬ j = X) w w' := by
  unfold Dk.deed
  by_cases h0 : k = 0
  · subst h0; rw [if_pos rfl]; exact Do_write h x hX n s
  rw [if_neg h0]
  by_cases h1 : k = 1
  · subst h1; rw [if_pos rfl]; exact Do_sync h x hX n s
  rw [if_neg h1]
  by_cases h2 : k = 2
  · subst h2; rw [if_pos rfl]; exact Do_replace h x hX n s
  rw [if_neg h2]
  exact Do_crash h x hX k (by simpa using h0) (by simpa using h1) (by simpa using h2) n s

end Go.Proofs.Ytigampjbhicfcaa
