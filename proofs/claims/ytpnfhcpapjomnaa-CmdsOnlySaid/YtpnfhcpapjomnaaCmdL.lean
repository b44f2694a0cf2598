/- What the program's commands are held to; few, awake. -/
import Derived.Test.YtpnfhcpapjomnaaCmdS
import Derived.Test.YtpnfhcpapjomnaaCmdW
namespace Go.Proofs.Ytpnfhcpapjomnaa
open Go.RowKit
set_option linter.unusedVariables false

/-- What is read: a command that may be told, or the empty one. -/
theorem decode_two (s : ByteArray) : (Cm.decode s = (Cm.zero, 10)) ∨ ((Cm.decode s).2 = 0 ∧ Cm.check (Cm.decode s).1 = 0 ∧ Cm.put (Cm.decode s).1 = s) := by
  cases h : Cm.wrong s
  · right
    have e : (Cm.decode s).2 = 0 := by unfold Cm.decode; rw [if_neg (by rw [h]; simp)]
    exact ⟨e, Cm.decode_only e⟩
  · left
    unfold Cm.decode
    rw [if_pos h]

structure CmC where
  check : ∀ (c : Cmd) vn vh w, c.wide → c.few → CmAt c vn vh w → Calls Try.prog 12 #[.agg (c.c vn vh)] w (RetBelow (.int .i64 (Cm.check c)) w)
  encode : ∀ (c : Cmd) vn vh w, c.wide → c.few → CmAt c vn vh w → Calls Try.prog 10 #[.agg (c.c vn vh)] w (RetBelow (.tuple #[.string (Cm.encode c).1, .int .i64 (Cm.encode c).2]) w)
  decode : ∀ (s : ByteArray) w, s.size ≤ maxLen → Calls Try.prog 14 #[.string s] w fun e w' => ∃ vn vh : Value,
    e = .returned (.tuple #[.agg ((Cm.decode s).1.c vn vh), .int .i64 (Cm.decode s).2]) ∧ CmAt (Cm.decode s).1 vn vh w' ∧ Below w.heap.size w w'
  same : ∀ (a b : Cmd) va ha vb hb w, a.wide → a.few → b.wide → b.few → CmAt a va ha w → CmAt b vb hb w → Calls Try.prog 17 #[.agg (a.c va ha), .agg (b.c vb hb)] w (RetBelow (.bool (decide (a = b))) w)

/-- Encode, by definition. -/
theorem rEncodeAt {c : Cmd} {vn vh : Value} {w : World} (h : CmAt c vn vh w) : Calls Try.prog 11 #[.agg (c.c vn vh)] w (RetBelow (.tuple #[.string (Cm.encode c).1, .int .i64 (Cm.encode c).2]) w) := by
  have g1 : Below w.heap.size w (w.alloc (.cells (c.c vn vh) 31)) := (Below.refl _ _).alloc (Nat.le_refl _) _
  have hk := rCheckAt (h.kept g1)
  have hp := fun w2 (g : Below w.heap.size w w2) hc => rPutAt (h.kept g) hc
  have hh := Holds.new w (c.c vn vh) 31
  have hlt : w.heap.size < (w.alloc (.cells (c.c vn vh) 31)).heap.size := by simp
  have hkeep := fun w2 (g : Below (w.alloc (.cells (c.c vn vh) 31)).heap.size (w.alloc (.cells (c.c vn vh) 31)) w2) => hh.kept hlt g
  have henc : Cm.encode c = if Cm.check c ≠ 0 then (⟨#[]⟩, Cm.check c) else (Cm.put c, 0) := rfl
  rw [henc]
  obtain ⟨ck, hck⟩ : ∃ v, Cm.check c = v := ⟨_, rfl⟩
  obtain ⟨pt, hpt⟩ : ∃ v, Cm.put c = v := ⟨_, rfl⟩
  obtain ⟨an, ln, cn, ah, lh, ch, rfl, rfl⟩ := h.slices
  simp only [hck, hpt] at hk hp ⊢
  obtain ⟨kind, nodes, hosts, half, age, ⟨id, ten, pods, ⟨x, y, z⟩, run, lev, pre⟩, n⟩ := c
  simp only [Cmd.c] at hk hp hh hkeep g1 ⊢
  obtain ⟨⟨r0, r1⟩, hR⟩ : ∃ r, (if ck ≠ 0 then ((⟨#[]⟩ : ByteArray), ck) else (pt, 0)) = r := ⟨_, rfl⟩
  rw [hR]
  have HRR := Lib.hid hR; clear hR
  have HK := Lib.hid hk; have HP := Lib.hid hp; have HKEEP := Lib.hid hkeep; have G1 := Lib.hid g1
  clear hk hp hh hlt hkeep g1 hck hpt h henc
  go_enter Try.func11, Try.ntmps11
  go_wp2_with fail
  refine HK.out.mono ?_
  rintro er w2 ⟨rfl, b2⟩
  have hf := HKEEP.out w2 b2
  have G2 := Lib.hid (below_trans G1.out b2); clear b2
  by_cases h0 : ck = 0
  · subst h0
    have c0 : w2.cell? ⟨w.heap.size, 0, none⟩ = some (.int .i64 kind) := hf 0 _ rfl
    have c1 : w2.cell? ⟨w.heap.size, 1, none⟩ = some (.slice an ln cn) := hf 1 _ rfl
    have c2 : w2.cell? ⟨w.heap.size, 2, none⟩ = some (.slice ah lh ch) := hf 2 _ rfl
    have c3 : w2.cell? ⟨w.heap.size, 3, none⟩ = some (.int .i64 half) := hf 3 _ rfl
    have c4 : w2.cell? ⟨w.heap.size, 4, none⟩ = some (.int .i64 age) := hf 4 _ rfl
    have c5 : w2.cell? ⟨w.heap.size, 5, none⟩ = some (.int .i64 id) := hf 5 _ rfl
    have c6 : w2.cell? ⟨w.heap.size, 6, none⟩ = some (.int .i64 ten) := hf 6 _ rfl
    have c7 : w2.cell? ⟨w.heap.size, 7, none⟩ = some (.int .i64 pods) := hf 7 _ rfl
    have c8 : w2.cell? ⟨w.heap.size, 8, none⟩ = some (.int .i64 x) := hf 8 _ rfl
    have c9 : w2.cell? ⟨w.heap.size, 9, none⟩ = some (.int .i64 y) := hf 9 _ rfl
    have c10 : w2.cell? ⟨w.heap.size, 10, none⟩ = some (.int .i64 z) := hf 10 _ rfl
    have c11 : w2.cell? ⟨w.heap.size, 11, none⟩ = some (.int .i64 run) := hf 11 _ rfl
    have c12 : w2.cell? ⟨w.heap.size, 12, none⟩ = some (.int .i64 lev) := hf 12 _ rfl
    have c13 : w2.cell? ⟨w.heap.size, 13, none⟩ = some (.int .i64 pre) := hf 13 _ rfl
    have c14 : w2.cell? ⟨w.heap.size, 14, none⟩ = some (.int .i64 n) := hf 14 _ rfl
    go_wp2_with fail
    refine (HP.out _ G2.out (by trivial)).mono ?_
    rintro er w3 ⟨rfl, b3⟩
    have G3 := Lib.hid (below_trans G2.out b3); clear b3 c0 c1 c2 c3 c4 c5 c6 c7 c8 c9 c10 c11 c12 c13 c14
    go_wp2_with fail
    go_ret2
    exact ⟨by have h := HRR.out; rw [if_neg (by simp)] at h; injection h with h1 h2; rw [← h1, ← h2]; rfl, G3.out⟩
  · have h0' : (ck != 0) = true := by simpa using h0
    go_wp2_with fail
    go_ret2
    exact ⟨by have h := HRR.out; rw [if_pos h0] at h; injection h with h1 h2; rw [← h1, ← h2]; rfl, G2.out⟩

theorem few_any (c : Cmd) (vn vh : Value) (w : World) (h : CmAt c vn vh w) (hn : c.nodes.length ≤ 140737488351232) (hh : c.hosts.length ≤ 140737488351232) : Calls Try.prog 8 #[.agg (c.c vn vh)] w (RetBelow (.bool (decide (c.nodes.length + c.hosts.length ≤ 2000))) w) := by
  obtain ⟨an, cn, nb, no, ah, ch, hb, ho, rfl, rfl, h1, h2⟩ := h
  clear h1 h2
  obtain ⟨kind, nodes, hosts, half, age, ⟨id, ten, pods, ⟨x, y, z⟩, run, lev, pre⟩, n⟩ := c
  simp only [Cmd.c] at *
  obtain ⟨nl, hnl⟩ : ∃ n, nodes.length = n := ⟨_, rfl⟩
  obtain ⟨hl, hhl⟩ : ∃ n, hosts.length = n := ⟨_, rfl⟩
  rw [hnl] at hn ⊢
  rw [hhl] at hh ⊢
  clear hnl hhl
  obtain ⟨zn, hzn⟩ : ∃ z : Int, (nl : Int) = z := ⟨_, rfl⟩
  obtain ⟨zh, hzh⟩ : ∃ z : Int, (hl : Int) = z := ⟨_, rfl⟩
  have r0 : 0 ≤ zn ∧ zn ≤ 140737488351232 ∧ 0 ≤ zh ∧ zh ≤ 140737488351232 := by omega
  obtain ⟨r1, r2, r3, r4⟩ := r0
  have e : Hid (decide (nl + hl ≤ 2000) = decide (zn + zh ≤ 2000)) := Lib.hid (by rw [Bool.eq_iff_iff]; simp only [decide_eq_true_eq]; omega)
  clear hn hh
  go_enter Try.func8, Try.ntmps8
  by_cases h : zn + zh ≤ 2000
  · go_wp2_with fail
    go_ret
    exact ⟨by rw [e.out]; simp [h], (Below.refl _ _).alloc (Nat.le_refl _) _⟩
  · go_wp2_with fail
    go_ret
    exact ⟨by rw [e.out]; simp [h], (Below.refl _ _).alloc (Nat.le_refl _) _⟩

end Go.Proofs.Ytpnfhcpapjomnaa
