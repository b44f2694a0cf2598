/- The landed Decode, plainly: counts, parts, and what Decode answers. -/
import Derived.Test.YtpnfhcpapjomnaaCmd
namespace Go.Proofs.Ytpnfhcpapjomnaa
open Go.RowKit
set_option linter.unusedVariables false

namespace Cm
/-- A count that is not above the most; n parts; a configuration; a command. -/
def cnt (most : Int) (p : St) : Int × St := if (num p).2.bad = true ∨ most < (num p).1 then (0, ⟨(num p).2.s, true⟩) else num p
def rep {α : Type} (g : St → α × St) : Nat → St → List α → List α × St
  | 0, p, l => (l, p)
  | f + 1, p, l => if p.bad = true then (l, p) else rep g f (g p).2 (l ++ [(g p).1])
def confP (p : St) : (List Nd × List Hs × Int × Int) × St :=
  let n := cnt 12 p
  let a := rep node n.1.toNat n.2 []
  let m := cnt 24 a.2
  let b := rep host m.1.toNat m.2 []
  ((a.1, b.1, (num b.2).1, (num (num b.2).2).1), (num (num b.2).2).2)
def parseP (s : ByteArray) : Cmd × St :=
  let k := num ⟨s, false⟩
  if k.1 = 1 then (⟨k.1, (confP k.2).1.1, (confP k.2).1.2.1, (confP k.2).1.2.2.1, (confP k.2).1.2.2.2, zG, 0⟩, (confP k.2).2)
  else if k.1 = 2 then (⟨k.1, [], [], 0, 0, (gang k.2).1, 0⟩, (gang k.2).2)
  else if k.1 = 3 ∨ k.1 = 4 ∨ k.1 = 5 then (⟨k.1, [], [], 0, 0, zG, (num k.2).1⟩, (num k.2).2)
  else (⟨k.1, [], [], 0, 0, zG, 0⟩, k.2)

theorem ba_split (s : ByteArray) (k : Nat) : s.extract 0 k ++ s.extract k s.size = s := by
  apply ba_ext
  rw [ba_app, ba_cut, ba_from]
  simp
theorem num_only {p q : St} {x : Int} (e : num p = (x, q)) (h : q.bad = false) : p.bad = false ∧ p.s = pn x ++ q.s ∧ 0 ≤ x := by
  unfold num at e
  obtain ⟨r, hr⟩ : ∃ r, Nu.get p.s = r := ⟨_, rfl⟩
  obtain ⟨n, k, er⟩ := r
  rw [hr] at e
  by_cases hn : er ≠ 0 ∨ p.bad = true
  · rw [if_pos hn] at e
    injection e with _ e2
    rw [← e2] at h
    cases h
  · rw [if_neg hn] at e
    injection e with e1 e2
    simp only [ne_eq, not_or, Decidable.not_not, Bool.not_eq_true] at hn
    obtain ⟨rfl, hb⟩ := hn
    have ho := Nu.get_only hr
    refine ⟨hb, ?_, by omega⟩
    rw [← e1, ← e2]
    unfold pn
    simp only [Int.toNat_natCast]
    rw [ho.2.2.2.1, ba_split]
theorem vec_only {p q : St} {v : V3} (e : vec p = (v, q)) (h : q.bad = false) : p.bad = false ∧ p.s = pv v ++ q.s := by
  obtain ⟨⟨x, p1⟩, e1⟩ : ∃ r, num p = r := ⟨_, rfl⟩
  obtain ⟨⟨y, p2⟩, e2⟩ : ∃ r, num p1 = r := ⟨_, rfl⟩
  obtain ⟨⟨z, p3⟩, e3⟩ : ∃ r, num p2 = r := ⟨_, rfl⟩
  have e' : vec p = (⟨x, y, z⟩, p3) := by simp only [vec, e1, e2, e3]
  rw [e'] at e
  injection e with ev eq
  subst ev; subst eq
  have h3 := num_only e3 h
  have h2 := num_only e2 h3.1
  have h1 := num_only e1 h2.1
  refine ⟨h1.1, ?_⟩
  rw [h1.2.1, h2.2.1, h3.2.1]
  unfold pv
  simp only [ba_cat]
theorem node_only {p q : St} {v : Nd} (e : node p = (v, q)) (h : q.bad = false) : p.bad = false ∧ p.s = pN v ++ q.s := by
  obtain ⟨⟨x, p1⟩, e1⟩ : ∃ r, num p = r := ⟨_, rfl⟩
  obtain ⟨⟨y, p2⟩, e2⟩ : ∃ r, num p1 = r := ⟨_, rfl⟩
  obtain ⟨⟨a, p3⟩, e3⟩ : ∃ r, vec p2 = r := ⟨_, rfl⟩
  obtain ⟨⟨b, p4⟩, e4⟩ : ∃ r, vec p3 = r := ⟨_, rfl⟩
  obtain ⟨⟨c, p5⟩, e5⟩ : ∃ r, vec p4 = r := ⟨_, rfl⟩
  have e' : node p = (⟨x - 1, y, a, b, c⟩, p5) := by simp only [node, e1, e2, e3, e4, e5]
  rw [e'] at e
  injection e with ev eq
  subst ev; subst eq
  have h5 := vec_only e5 h
  have h4 := vec_only e4 h5.1
  have h3 := vec_only e3 h4.1
  have h2 := num_only e2 h3.1
  have h1 := num_only e1 h2.1
  refine ⟨h1.1, ?_⟩
  rw [h1.2.1, h2.2.1, h3.2, h4.2, h5.2]
  unfold pN
  simp only [ba_cat, Int.sub_add_cancel]
theorem host_only {p q : St} {v : Hs} (e : host p = (v, q)) (h : q.bad = false) : p.bad = false ∧ p.s = pH v ++ q.s := by
  obtain ⟨⟨x, p1⟩, e1⟩ : ∃ r, num p = r := ⟨_, rfl⟩
  obtain ⟨⟨y, p2⟩, e2⟩ : ∃ r, num p1 = r := ⟨_, rfl⟩
  obtain ⟨⟨z, p3⟩, e3⟩ : ∃ r, num p2 = r := ⟨_, rfl⟩
  obtain ⟨⟨b, p4⟩, e4⟩ : ∃ r, vec p3 = r := ⟨_, rfl⟩
  have e' : host p = (⟨x, y, z, b⟩, p4) := by simp only [host, e1, e2, e3, e4]
  rw [e'] at e
  injection e with ev eq
  subst ev; subst eq
  have h4 := vec_only e4 h
  have h3 := num_only e3 h4.1
  have h2 := num_only e2 h3.1
  have h1 := num_only e1 h2.1
  refine ⟨h1.1, ?_⟩
  rw [h1.2.1, h2.2.1, h3.2.1, h4.2]
  unfold pH
  simp only [ba_cat]
theorem gang_only {p q : St} {v : Gg} (e : gang p = (v, q)) (h : q.bad = false) : p.bad = false ∧ p.s = pG v ++ q.s := by
  obtain ⟨⟨a, p1⟩, e1⟩ : ∃ r, num p = r := ⟨_, rfl⟩
  obtain ⟨⟨b, p2⟩, e2⟩ : ∃ r, num p1 = r := ⟨_, rfl⟩
  obtain ⟨⟨c, p3⟩, e3⟩ : ∃ r, num p2 = r := ⟨_, rfl⟩
  obtain ⟨⟨d, p4⟩, e4⟩ : ∃ r, vec p3 = r := ⟨_, rfl⟩
  obtain ⟨⟨f, p5⟩, e5⟩ : ∃ r, num p4 = r := ⟨_, rfl⟩
  obtain ⟨⟨g, p6⟩, e6⟩ : ∃ r, num p5 = r := ⟨_, rfl⟩
  obtain ⟨⟨i, p7⟩, e7⟩ : ∃ r, num p6 = r := ⟨_, rfl⟩
  have e' : gang p = (⟨a, b, c, d, f, g, i⟩, p7) := by simp only [gang, e1, e2, e3, e4, e5, e6, e7]
  rw [e'] at e
  injection e with ev eq
  subst ev; subst eq
  have h7 := num_only e7 h
  have h6 := num_only e6 h7.1
  have h5 := num_only e5 h6.1
  have h4 := vec_only e4 h5.1
  have h3 := num_only e3 h4.1
  have h2 := num_only e2 h3.1
  have h1 := num_only e1 h2.1
  refine ⟨h1.1, ?_⟩
  rw [h1.2.1, h2.2.1, h3.2.1, h4.2, h5.2.1, h6.2.1, h7.2.1]
  unfold pG
  simp only [ba_cat]
theorem cnt_only {most x : Int} {p q : St} (e : cnt most p = (x, q)) (h : q.bad = false) : p.bad = false ∧ p.s = pn x ++ q.s ∧ 0 ≤ x ∧ x ≤ most := by
  unfold cnt at e
  obtain ⟨⟨y, p1⟩, e1⟩ : ∃ r, num p = r := ⟨_, rfl⟩
  rw [e1] at e
  simp only at e
  by_cases hn : p1.bad = true ∨ most < y
  · rw [if_pos hn] at e
    injection e with _ e2
    rw [← e2] at h
    cases h
  · rw [if_neg hn] at e
    injection e with ex eq
    subst ex; subst eq
    have h1 := num_only e1 h
    exact ⟨h1.1, h1.2.1, h1.2.2, by omega⟩
theorem rep_only {α : Type} (g : St → α × St) (q : α → ByteArray) (ho : ∀ p x r, g p = (x, r) → r.bad = false → p.bad = false ∧ p.s = q x ++ r.s) :
    ∀ (f : Nat) (p : St) (l m : List α) (r : St), rep g f p l = (m, r) → r.bad = false → p.bad = false ∧ ∃ l', m = l ++ l' ∧ l'.length = f ∧ p.s = cat q l' r.s
  | 0, p, l, m, r, e, h => by
    rw [rep] at e
    injection e with e1 e2
    subst e1; subst e2
    exact ⟨h, [], by simp, rfl, rfl⟩
  | f + 1, p, l, m, r, e, h => by
    rw [rep] at e
    by_cases hb : p.bad = true
    · rw [if_pos hb] at e
      injection e with e1 e2
      subst e2
      rw [hb] at h; cases h
    · rw [if_neg hb] at e
      obtain ⟨⟨x, p1⟩, ex⟩ : ∃ r, g p = r := ⟨_, rfl⟩
      rw [ex] at e
      simp only at e
      obtain ⟨h1, l', f1, f2, f3⟩ := rep_only g q ho f p1 (l ++ [x]) m r e h
      have h2 := ho p x p1 ex h1
      refine ⟨h2.1, x :: l', by rw [f1]; simp, by simp [f2], ?_⟩
      rw [h2.2, f3]
      rfl
/-- A configuration, read. -/
theorem confP_parts {p p1 p2 p3 p4 p5 p6 : St} {n m x y : Int} {ns : List Nd} {hs : List Hs} (e1 : cnt 12 p = (n, p1)) (e2 : rep node n.toNat p1 [] = (ns, p2)) (e3 : cnt 24 p2 = (m, p3)) (e4 : rep host m.toNat p3 [] = (hs, p4)) (e5 : num p4 = (x, p5)) (e6 : num p5 = (y, p6)) :
    confP p = ((ns, hs, x, y), p6) := by simp only [confP, e1, e2, e3, e4, e5, e6]
theorem confP_only {p q : St} {ns : List Nd} {hs : List Hs} {x y : Int} (e : confP p = ((ns, hs, x, y), q)) (h : q.bad = false) : p.bad = false ∧ p.s = pn ns.length ++ cat pN ns (pn hs.length ++ cat pH hs (pn x ++ (pn y ++ q.s))) := by
  obtain ⟨⟨n, p1⟩, e1⟩ : ∃ r, cnt 12 p = r := ⟨_, rfl⟩
  obtain ⟨⟨ns', p2⟩, e2⟩ : ∃ r, rep node n.toNat p1 [] = r := ⟨_, rfl⟩
  obtain ⟨⟨m, p3⟩, e3⟩ : ∃ r, cnt 24 p2 = r := ⟨_, rfl⟩
  obtain ⟨⟨hs', p4⟩, e4⟩ : ∃ r, rep host m.toNat p3 [] = r := ⟨_, rfl⟩
  obtain ⟨⟨x', p5⟩, e5⟩ : ∃ r, num p4 = r := ⟨_, rfl⟩
  obtain ⟨⟨y', p6⟩, e6⟩ : ∃ r, num p5 = r := ⟨_, rfl⟩
  rw [confP_parts e1 e2 e3 e4 e5 e6] at e
  simp only [Prod.mk.injEq] at e
  obtain ⟨⟨rfl, rfl, rfl, rfl⟩, rfl⟩ := e
  have h6 := num_only e6 h
  have h5 := num_only e5 h6.1
  obtain ⟨h4, l2, f1, f2, f3⟩ := rep_only host pH (fun p x r => host_only) _ _ _ _ _ e4 h5.1
  have h3 := cnt_only e3 h4
  obtain ⟨h2, l1, g1, g2, g3⟩ := rep_only node pN (fun p x r => node_only) _ _ _ _ _ e2 h3.1
  have h1 := cnt_only e1 h2
  rw [List.nil_append] at f1 g1
  subst f1; subst g1
  refine ⟨h1.1, ?_⟩
  rw [g2, f2, h1.2.1, g3, h3.2.1, f3, h5.2.1, h6.2.1, show ((n.toNat : Nat) : Int) = n by have := h1.2.2.1; omega, show ((m.toNat : Nat) : Int) = m by have := h3.2.2.1; omega]

theorem cnt_back (n : Int) (most : Int) (h0 : 0 ≤ n) (h1 : n ≤ 1099511627776) (hm : n ≤ most) (r : ByteArray) : cnt most ⟨pn n ++ r, false⟩ = (n, ⟨r, false⟩) := by
  unfold cnt
  rw [num_back n h0 h1 r, if_neg]
  simp only [Bool.false_eq_true, false_or, Int.not_lt]
  exact hm
theorem rep_back {α : Type} (g : St → α × St) (q : α → ByteArray) (o : α → Bool) (hb : ∀ x r, o x = true → g ⟨q x ++ r, false⟩ = (x, ⟨r, false⟩)) (r : ByteArray) :
    ∀ (l : List α) (a : List α), (∀ x ∈ l, o x = true) → rep g l.length ⟨cat q l r, false⟩ a = (a ++ l, ⟨r, false⟩)
  | [], a, _ => by simp [rep, cat]
  | x :: l, a, hx => by
    rw [List.length_cons, rep, if_neg (by simp), cat, hb x _ (hx x (by simp))]
    simp only
    rw [rep_back g q o hb r l (a ++ [x]) (fun y hy => hx y (by simp [hy])), List.append_assoc]
    rfl
theorem confP_back (c : Cmd) (h : okC c = true) (hn : c.nodes.length ≤ 12) (hh : c.hosts.length ≤ 24) : confP ⟨pC c, false⟩ = ((c.nodes, c.hosts, c.half, c.age), ⟨⟨#[]⟩, false⟩) := by
  simp only [okC, Bool.and_eq_true, ok_iff, List.all_eq_true] at h
  have e1 := rep_back node pN okN (fun x r hx => node_back x hx r) (pn c.hosts.length ++ cat pH c.hosts (pn c.half ++ pn c.age)) c.nodes [] h.1.1.1
  have e2 := rep_back host pH okH (fun x r hx => host_back x hx r) (pn c.half ++ pn c.age) c.hosts [] h.1.1.2
  have e4 : num ⟨pn c.age, false⟩ = (c.age, ⟨⟨#[]⟩, false⟩) := by have := num_back c.age h.2.1 h.2.2 ⟨#[]⟩; rwa [ba_right] at this
  unfold confP pC
  rw [cnt_back _ 12 (by omega) (by omega) (by omega)]
  simp only [Int.toNat_natCast]
  rw [e1]
  simp only
  rw [cnt_back _ 24 (by omega) (by omega) (by omega)]
  simp only [Int.toNat_natCast]
  rw [e2]
  simp only
  rw [num_back _ h.1.2.1 h.1.2.2]
  simp only
  rw [e4]
  simp only [List.nil_append]

theorem parseP_put {c : Cmd} (h : check c = 0) : parseP (put c) = (c, ⟨⟨#[]⟩, false⟩) := by
  obtain ⟨hf, hn, hh⟩ := check_zero h
  have hk := fine_kind hf
  unfold parseP put
  rw [num_back c.kind (by omega) (by omega)]
  simp only
  unfold fine at hf
  by_cases k1 : c.kind = 1
  · rw [if_pos k1] at hf
    rw [if_pos k1, if_pos k1]
    simp only [Bool.and_eq_true, bare, decide_eq_true_eq] at hf
    rw [confP_back c hf.2 hn hh]
    simp only [Prod.mk.injEq, and_true]
    rw [Cmd.eq_iff]
    exact ⟨rfl, rfl, rfl, rfl, rfl, hf.1.1.symm, hf.1.2.symm⟩
  rw [if_neg k1] at hf
  rw [if_neg k1, if_neg k1]
  by_cases k2 : c.kind = 2
  · rw [if_pos k2] at hf
    rw [if_pos k2, if_pos k2]
    simp only [Bool.and_eq_true, decide_eq_true_eq, empty_iff] at hf
    have e := gang_back c.gang hf.2 ⟨#[]⟩
    rw [ba_right] at e
    rw [e]
    simp only [Prod.mk.injEq, and_true]
    rw [Cmd.eq_iff]
    exact ⟨rfl, hf.1.1.1.symm, hf.1.1.2.1.symm, hf.1.1.2.2.1.symm, hf.1.1.2.2.2.symm, rfl, hf.1.2.symm⟩
  rw [if_neg k2] at hf
  rw [if_neg k2, if_neg k2]
  by_cases k3 : c.kind = 3 ∨ c.kind = 4 ∨ c.kind = 5
  · rw [if_pos k3] at hf
    rw [if_pos k3, if_neg (by omega)]
    simp only [Bool.and_eq_true, bare, decide_eq_true_eq, empty_iff, ok_iff] at hf
    have e := num_back c.n hf.2.1 hf.2.2 ⟨#[]⟩
    rw [ba_right] at e
    rw [e]
    simp only [Prod.mk.injEq, and_true]
    rw [Cmd.eq_iff]
    exact ⟨rfl, hf.1.1.1.symm, hf.1.1.2.1.symm, hf.1.1.2.2.1.symm, hf.1.1.2.2.2.symm, hf.1.2.symm, rfl⟩
  rw [if_neg k3] at hf
  rw [if_neg k3]
  by_cases k6 : c.kind = 6
  · rw [if_pos k6] at hf
    rw [if_pos k6]
    simp only [Bool.and_eq_true, bare, decide_eq_true_eq, empty_iff] at hf
    simp only [Prod.mk.injEq, and_true]
    rw [Cmd.eq_iff]
    exact ⟨rfl, hf.1.1.1.symm, hf.1.1.2.1.symm, hf.1.1.2.2.1.symm, hf.1.1.2.2.2.symm, hf.1.2.symm, hf.2.symm⟩
  · rw [if_neg k6] at hf
    cases hf
theorem parseP_only {s : ByteArray} {c : Cmd} {q : St} (e : parseP s = (c, q)) (h : q.bad = false) (h0 : q.s = ⟨#[]⟩) (hc : check c = 0) : put c = s := by
  have hk := fine_kind (check_zero hc).1
  unfold parseP at e
  obtain ⟨⟨k, p⟩, e1⟩ : ∃ r, num ⟨s, false⟩ = r := ⟨_, rfl⟩
  rw [e1] at e
  simp only at e
  by_cases k1 : k = 1
  · rw [if_pos k1] at e
    obtain ⟨⟨⟨ns, hs, x, y⟩, p1⟩, e2⟩ : ∃ r, confP p = r := ⟨_, rfl⟩
    rw [e2] at e
    injection e with ec eq
    subst ec; subst eq
    have h2 := confP_only e2 h
    have h1 := num_only e1 h2.1
    rw [h0, ba_right] at h2
    unfold put pC
    rw [if_pos k1]
    simp only
    rw [← h2.2]
    exact h1.2.1.symm
  rw [if_neg k1] at e
  by_cases k2 : k = 2
  · rw [if_pos k2] at e
    obtain ⟨⟨g, p1⟩, e2⟩ : ∃ r, gang p = r := ⟨_, rfl⟩
    rw [e2] at e
    injection e with ec eq
    subst ec; subst eq
    have h2 := gang_only e2 h
    have h1 := num_only e1 h2.1
    rw [h0, ba_right] at h2
    unfold put
    rw [if_neg k1, if_pos k2]
    simp only
    rw [← h2.2]
    exact h1.2.1.symm
  rw [if_neg k2] at e
  by_cases k3 : k = 3 ∨ k = 4 ∨ k = 5
  · rw [if_pos k3] at e
    obtain ⟨⟨n, p1⟩, e2⟩ : ∃ r, num p = r := ⟨_, rfl⟩
    rw [e2] at e
    injection e with ec eq
    subst ec; subst eq
    have h2 := num_only e2 h
    have h1 := num_only e1 h2.1
    rw [h0, ba_right] at h2
    have k6 : ¬ k = 6 := by omega
    unfold put
    rw [if_neg k1, if_neg k2, if_neg k6]
    simp only
    rw [← h2.2.1]
    exact h1.2.1.symm
  rw [if_neg k3] at e
  injection e with ec eq
  subst ec; subst eq
  have h1 := num_only e1 h
  simp only at hk
  have k6 : k = 6 := by omega
  rw [h0, ba_right] at h1
  unfold put
  rw [if_neg k1, if_neg k2, if_pos k6, ba_right]
  exact h1.2.1.symm

/-- What Decode answers. -/
theorem decode_land_yes {s : ByteArray} (h : (parseP s).2.bad = false) (h0 : (parseP s).2.s = ⟨#[]⟩) (hc : check (parseP s).1 = 0) : decode s = ((parseP s).1, 0) := by
  have e := parseP_only (c := (parseP s).1) (q := (parseP s).2) rfl h h0 hc
  have d := decode_put hc
  rwa [e] at d
theorem decode_land_no {s : ByteArray} (h : (parseP s).2.bad = true ∨ (parseP s).2.s ≠ ⟨#[]⟩ ∨ check (parseP s).1 ≠ 0) : decode s = (zero, 10) := by
  refine decode_none fun c hc e => ?_
  have p := parseP_put hc
  rw [e] at p
  rw [p] at h
  rcases h with h | h | h
  · cases h
  · exact h rfl
  · exact h hc

/-- Once wrong, always wrong. -/
theorem num_bad {p : St} (h : p.bad = true) : (num p).2.bad = true := by
  unfold num
  rw [if_pos (.inr h)]
theorem vec_bad {p : St} (h : p.bad = true) : (vec p).2.bad = true := by
  unfold vec; simp only; exact num_bad (num_bad (num_bad h))
theorem node_bad {p : St} (h : p.bad = true) : (node p).2.bad = true := by
  unfold node; simp only; exact vec_bad (vec_bad (vec_bad (num_bad (num_bad h))))
theorem host_bad {p : St} (h : p.bad = true) : (host p).2.bad = true := by
  unfold host; simp only; exact vec_bad (num_bad (num_bad (num_bad h)))
theorem gang_bad {p : St} (h : p.bad = true) : (gang p).2.bad = true := by
  unfold gang; simp only; exact num_bad (num_bad (num_bad (vec_bad (num_bad (num_bad (num_bad h))))))
theorem cnt_bad {most : Int} {p : St} (h : p.bad = true) : (cnt most p).2.bad = true := by
  unfold cnt
  rw [if_pos (.inl (num_bad h))]
theorem rep_bad {α : Type} (g : St → α × St) {f : Nat} {p : St} {l : List α} (h : p.bad = true) : (rep g f p l).2.bad = true := by
  cases f with
  | zero => exact h
  | succ f => rw [rep, if_pos h]; exact h

/-- An amount, read as three numbers. -/
theorem num_part (s : ByteArray) (r : Nat) : num ⟨s.extract (Nu.seek s r) s.size, false⟩ = if (Nu.part s r).2.2 ≠ 0 then (0, ⟨s.extract (Nu.seek s r) s.size, true⟩) else (((Nu.part s r).1 : Int), ⟨s.extract (Nu.seek s (r + 1)) s.size, false⟩) := by
  have hp : Nu.get (s.extract (Nu.seek s r) s.size) = Nu.part s r := rfl
  have hsk := Nu.seek_le s r
  have hcut : (s.extract (Nu.seek s r) s.size).extract (Nu.part s r).2.1 (s.extract (Nu.seek s r) s.size).size = s.extract (Nu.seek s (r + 1)) s.size := by
    rw [Nu.seek_succ]
    apply ba_ext
    rw [ba_from, ba_from, ba_from, List.drop_drop]
  unfold num
  simp only
  rw [hp, hcut]
  by_cases h : (Nu.part s r).2.2 = 0
  · rw [if_neg (by simp [h]), if_neg (by simp [h])]
  · rw [if_pos (.inl h), if_pos h]
theorem vec_getV (s : ByteArray) : ((Nu.getV s).2.2 = 0 ∧ vec ⟨s, false⟩ = (⟨((Nu.getV s).1.1 : Int), ((Nu.getV s).1.2.1 : Int), ((Nu.getV s).1.2.2 : Int)⟩, ⟨s.extract (Nu.getV s).2.1 s.size, false⟩)) ∨ ((Nu.getV s).2.2 ≠ 0 ∧ (vec ⟨s, false⟩).2.bad = true) := by
  have hs0 : Nu.seek s 0 = 0 := rfl
  have ex0 : s.extract 0 s.size = s := by apply ba_ext; rw [ba_from, List.drop_zero]
  have h0 := num_part s 0; have h1 := num_part s 1; have h2 := num_part s 2
  rw [hs0, ex0] at h0
  rw [show 0 + 1 = 1 from rfl] at h0
  rw [show 1 + 1 = 2 from rfl] at h1
  rw [show 2 + 1 = 3 from rfl] at h2
  unfold Nu.getV
  obtain ⟨⟨x0, k0, e0⟩, q0⟩ : ∃ r, Nu.part s 0 = r := ⟨_, rfl⟩
  obtain ⟨⟨x1, k1, e1⟩, q1⟩ : ∃ r, Nu.part s 1 = r := ⟨_, rfl⟩
  obtain ⟨⟨x2, k2, e2⟩, q2⟩ : ∃ r, Nu.part s 2 = r := ⟨_, rfl⟩
  obtain ⟨t1, ht1⟩ : ∃ r, s.extract (Nu.seek s 1) s.size = r := ⟨_, rfl⟩
  obtain ⟨t2, ht2⟩ : ∃ r, s.extract (Nu.seek s 2) s.size = r := ⟨_, rfl⟩
  obtain ⟨m3, hm3⟩ : ∃ r, Nu.seek s 3 = r := ⟨_, rfl⟩
  rw [q0, ht1] at h0
  rw [q1, ht1, ht2] at h1
  rw [q2, ht2, hm3] at h2
  rw [q0, q1, q2, hm3]
  clear q0 q1 q2 ht1 ht2 hm3 hs0 ex0
  simp only at h0 h1 h2 ⊢
  by_cases c0 : e0 = 0
  · rw [if_neg (by simp [c0])] at h0
    by_cases c1 : e1 = 0
    · rw [if_neg (by simp [c1])] at h1
      by_cases c2 : e2 = 0
      · rw [if_neg (by simp [c2])] at h2
        rw [if_neg (by simp [c0, c1, c2])]
        exact .inl ⟨rfl, by simp only [vec, h0, h1, h2]⟩
      · rw [if_pos c2] at h2
        rw [if_pos (.inr (.inr c2))]
        exact .inr ⟨by simp, by simp only [vec, h0, h1, h2]⟩
    · rw [if_pos c1] at h1
      rw [if_pos (.inr (.inl c1))]
      exact .inr ⟨by simp, by simp only [vec, h0, h1]; exact num_bad rfl⟩
  · rw [if_pos c0] at h0
    rw [if_pos (.inl c0)]
    exact .inr ⟨by simp, by simp only [vec, h0]; exact num_bad (num_bad rfl)⟩
end Cm

end Go.Proofs.Ytpnfhcpapjomnaa
