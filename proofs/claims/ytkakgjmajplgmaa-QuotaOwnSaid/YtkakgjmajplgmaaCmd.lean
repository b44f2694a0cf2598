/- Commands as bytes: plainly. -/
import Derived.Test.YtkakgjmajplgmaaNum
namespace Go.Proofs.Ytkakgjmajplgmaa
open Go.RowKit
set_option linter.unusedVariables false

/-- An amount; a node; a host; a gang; a command. -/
structure V3 where
  x : Int
  y : Int
  z : Int
structure Nd where
  par : Int
  wt : Int
  nom : V3
  bor : V3
  lend : V3
structure Hs where
  fl : Int
  bl : Int
  ra : Int
  cap : V3
structure Gg where
  id : Int
  ten : Int
  pods : Int
  need : V3
  run : Int
  lev : Int
  pre : Int
structure Cmd where
  kind : Int
  nodes : List Nd
  hosts : List Hs
  half : Int
  age : Int
  gang : Gg
  n : Int

theorem V3.eq_iff (a b : V3) : a = b ↔ a.x = b.x ∧ a.y = b.y ∧ a.z = b.z := by
  constructor
  · rintro rfl; exact ⟨rfl, rfl, rfl⟩
  · cases a; cases b; rintro ⟨h1, h2, h3⟩; simp only at h1 h2 h3; subst h1 h2 h3; rfl
instance : DecidableEq V3 := fun a b => decidable_of_iff _ (V3.eq_iff a b).symm
theorem Nd.eq_iff (a b : Nd) : a = b ↔ a.par = b.par ∧ a.wt = b.wt ∧ a.nom = b.nom ∧ a.bor = b.bor ∧ a.lend = b.lend := by
  constructor
  · rintro rfl; exact ⟨rfl, rfl, rfl, rfl, rfl⟩
  · cases a; cases b; rintro ⟨h1, h2, h3, h4, h5⟩; simp only at h1 h2 h3 h4 h5; subst h1 h2 h3 h4 h5; rfl
instance : DecidableEq Nd := fun a b => decidable_of_iff _ (Nd.eq_iff a b).symm
theorem Hs.eq_iff (a b : Hs) : a = b ↔ a.fl = b.fl ∧ a.bl = b.bl ∧ a.ra = b.ra ∧ a.cap = b.cap := by
  constructor
  · rintro rfl; exact ⟨rfl, rfl, rfl, rfl⟩
  · cases a; cases b; rintro ⟨h1, h2, h3, h4⟩; simp only at h1 h2 h3 h4; subst h1 h2 h3 h4; rfl
instance : DecidableEq Hs := fun a b => decidable_of_iff _ (Hs.eq_iff a b).symm
theorem Gg.eq_iff (a b : Gg) : a = b ↔ a.id = b.id ∧ a.ten = b.ten ∧ a.pods = b.pods ∧ a.need = b.need ∧ a.run = b.run ∧ a.lev = b.lev ∧ a.pre = b.pre := by
  constructor
  · rintro rfl; exact ⟨rfl, rfl, rfl, rfl, rfl, rfl, rfl⟩
  · cases a; cases b; rintro ⟨h1, h2, h3, h4, h5, h6, h7⟩; simp only at h1 h2 h3 h4 h5 h6 h7; subst h1 h2 h3 h4 h5 h6 h7; rfl
instance : DecidableEq Gg := fun a b => decidable_of_iff _ (Gg.eq_iff a b).symm
theorem Cmd.eq_iff (a b : Cmd) : a = b ↔ a.kind = b.kind ∧ a.nodes = b.nodes ∧ a.hosts = b.hosts ∧ a.half = b.half ∧ a.age = b.age ∧ a.gang = b.gang ∧ a.n = b.n := by
  constructor
  · rintro rfl; exact ⟨rfl, rfl, rfl, rfl, rfl, rfl, rfl⟩
  · cases a; cases b; rintro ⟨h1, h2, h3, h4, h5, h6, h7⟩; simp only at h1 h2 h3 h4 h5 h6 h7; subst h1 h2 h3 h4 h5 h6 h7; rfl
instance : DecidableEq Cmd := fun a b => decidable_of_iff _ (Cmd.eq_iff a b).symm

namespace Cm
/-- May a number be told? -/
def ok (x : Int) : Bool := decide (0 ≤ x ∧ x ≤ 1099511627776)
def okV (v : V3) : Bool := ok v.x && ok v.y && ok v.z
def okP (x : Int) : Bool := decide (-1 ≤ x ∧ x ≤ 1099511627776)
def okN (n : Nd) : Bool := okP n.par && ok n.wt && okV n.nom && okV n.bor && okV n.lend
def okH (h : Hs) : Bool := ok h.fl && ok h.bl && ok h.ra && okV h.cap
def okG (g : Gg) : Bool := ok g.id && ok g.ten && ok g.pods && ok g.run && ok g.lev && ok g.pre && okV g.need
def zG : Gg := ⟨0, 0, 0, ⟨0, 0, 0⟩, 0, 0, 0⟩
def zero : Cmd := ⟨0, [], [], 0, 0, zG, 0⟩
def okC (c : Cmd) : Bool := c.nodes.all okN && c.hosts.all okH && ok c.half && ok c.age
def empty (c : Cmd) : Bool := decide (c.nodes.length = 0) && decide (c.hosts.length = 0) && decide (c.half = 0) && decide (c.age = 0)
def bare (g : Gg) : Bool := decide (g = zG)
def fine (c : Cmd) : Bool :=
  if c.kind = 1 then bare c.gang && decide (c.n = 0) && okC c
  else if c.kind = 2 then empty c && decide (c.n = 0) && okG c.gang
  else if c.kind = 3 ∨ c.kind = 4 ∨ c.kind = 5 then empty c && bare c.gang && ok c.n
  else if c.kind = 6 then empty c && bare c.gang && decide (c.n = 0)
  else false
def check (c : Cmd) : Int := if fine c = false then 1 else if 12 < c.nodes.length ∨ 24 < c.hosts.length then 8 else 0

def pn (x : Int) : ByteArray := Nu.put x.toNat
def pv (v : V3) : ByteArray := pn v.x ++ (pn v.y ++ pn v.z)
def pN (n : Nd) : ByteArray := pn (n.par + 1) ++ (pn n.wt ++ (pv n.nom ++ (pv n.bor ++ pv n.lend)))
def pH (h : Hs) : ByteArray := pn h.fl ++ (pn h.bl ++ (pn h.ra ++ pv h.cap))
def pG (g : Gg) : ByteArray := pn g.id ++ (pn g.ten ++ (pn g.pods ++ (pv g.need ++ (pn g.run ++ (pn g.lev ++ pn g.pre)))))
/-- Parts, one behind the other, ahead of r. -/
def cat {α : Type} (f : α → ByteArray) : List α → ByteArray → ByteArray
  | [], r => r
  | x :: l, r => f x ++ cat f l r
def pC (c : Cmd) : ByteArray := pn c.nodes.length ++ cat pN c.nodes (pn c.hosts.length ++ cat pH c.hosts (pn c.half ++ pn c.age))
def put (c : Cmd) : ByteArray := pn c.kind ++ (if c.kind = 1 then pC c else if c.kind = 2 then pG c.gang else if c.kind = 6 then ⟨#[]⟩ else pn c.n)

/-- Bytes that are left, and whether they were as they should not be. -/
structure St where
  s : ByteArray
  bad : Bool
def num (p : St) : Int × St := if (Nu.get p.s).2.2 ≠ 0 ∨ p.bad = true then (0, ⟨p.s, true⟩) else (((Nu.get p.s).1 : Int), ⟨p.s.extract (Nu.get p.s).2.1 p.s.size, false⟩)
def vec (p : St) : V3 × St := (⟨(num p).1, (num (num p).2).1, (num (num (num p).2).2).1⟩, (num (num (num p).2).2).2)
def node (p : St) : Nd × St :=
  (⟨(num p).1 - 1, (num (num p).2).1, (vec (num (num p).2).2).1, (vec (vec (num (num p).2).2).2).1, (vec (vec (vec (num (num p).2).2).2).2).1⟩, (vec (vec (vec (num (num p).2).2).2).2).2)
def host (p : St) : Hs × St :=
  (⟨(num p).1, (num (num p).2).1, (num (num (num p).2).2).1, (vec (num (num (num p).2).2).2).1⟩, (vec (num (num (num p).2).2).2).2)
def gang (p : St) : Gg × St :=
  (⟨(num p).1, (num (num p).2).1, (num (num (num p).2).2).1, (vec (num (num (num p).2).2).2).1, (num (vec (num (num (num p).2).2).2).2).1, (num (num (vec (num (num (num p).2).2).2).2).2).1, (num (num (num (vec (num (num (num p).2).2).2).2).2).2).1⟩, (num (num (num (vec (num (num (num p).2).2).2).2).2).2).2)
/-- The rest of a list: f rounds at most, of which each has read one more; m: as many as there can be. -/
def many {α : Type} (g : St → α × St) (n : Int) (m : Nat) : Nat → St → List α → List α × St
  | 0, p, l => (l, p)
  | f + 1, p, l => if (m : Int) - (f + 1) < n ∧ p.bad = false then many g n m f (g p).2 (l ++ [(g p).1]) else (l, p)
def conf (p : St) : (List Nd × List Hs × Int × Int) × St :=
  let a := many node (num p).1 13 13 (num p).2 []
  let b := many host (num a.2).1 25 25 (num a.2).2 []
  ((a.1, b.1, (num b.2).1, (num (num b.2).2).1), (num (num b.2).2).2)
def parse (s : ByteArray) : Cmd × St :=
  let k := num ⟨s, false⟩
  if k.1 = 1 then (⟨k.1, (conf k.2).1.1, (conf k.2).1.2.1, (conf k.2).1.2.2.1, (conf k.2).1.2.2.2, zG, 0⟩, (conf k.2).2)
  else if k.1 = 2 then (⟨k.1, [], [], 0, 0, (gang k.2).1, 0⟩, (gang k.2).2)
  else if k.1 = 3 ∨ k.1 = 4 ∨ k.1 = 5 then (⟨k.1, [], [], 0, 0, zG, (num k.2).1⟩, (num k.2).2)
  else (⟨k.1, [], [], 0, 0, zG, 0⟩, k.2)
def wrong (s : ByteArray) : Bool := (parse s).2.bad || decide ((parse s).2.s ≠ ⟨#[]⟩) || decide (check (parse s).1 ≠ 0) || decide (put (parse s).1 ≠ s)
def decode (s : ByteArray) : Cmd × Int := if wrong s = true then (zero, 10) else ((parse s).1, 0)
def encode (c : Cmd) : ByteArray × Int := if check c ≠ 0 then (⟨#[]⟩, check c) else (put c, 0)

theorem ok_iff (x : Int) : ok x = true ↔ 0 ≤ x ∧ x ≤ 1099511627776 := by simp [ok]
theorem okP_iff (x : Int) : okP x = true ↔ -1 ≤ x ∧ x ≤ 1099511627776 := by simp [okP]

theorem num_up (x : Int) (h0 : 0 ≤ x) (h1 : x ≤ 1099511627777) (r : ByteArray) : num ⟨pn x ++ r, false⟩ = (x, ⟨r, false⟩) := by
  unfold num pn
  rw [Nu.get_back x.toNat (by omega) r]
  simp only [ne_eq, not_true, Bool.false_eq_true, or_self, ite_false, Prod.mk.injEq]
  refine ⟨by omega, ?_⟩
  rw [ba_past]
theorem num_back (x : Int) (h0 : 0 ≤ x) (h1 : x ≤ 1099511627776) (r : ByteArray) : num ⟨pn x ++ r, false⟩ = (x, ⟨r, false⟩) := num_up x h0 (by omega) r
theorem vec_back (v : V3) (h : okV v = true) (r : ByteArray) : vec ⟨pv v ++ r, false⟩ = (v, ⟨r, false⟩) := by
  simp only [okV, Bool.and_eq_true, ok_iff] at h
  unfold vec pv
  rw [ba_cat, ba_cat, num_back v.x h.1.1.1 h.1.1.2]
  simp only
  rw [num_back v.y h.1.2.1 h.1.2.2]
  simp only
  rw [num_back v.z h.2.1 h.2.2]
theorem node_back (n : Nd) (h : okN n = true) (r : ByteArray) : node ⟨pN n ++ r, false⟩ = (n, ⟨r, false⟩) := by
  simp only [okN, Bool.and_eq_true, ok_iff, okP_iff] at h
  unfold node pN
  rw [ba_cat, ba_cat, ba_cat, ba_cat, num_up (n.par + 1) (by have := h.1.1.1.1; omega) (by have := h.1.1.1.1; omega)]
  simp only
  rw [num_back n.wt h.1.1.1.2.1 h.1.1.1.2.2]
  simp only
  rw [vec_back _ h.1.1.2]
  simp only
  rw [vec_back _ h.1.2]
  simp only
  rw [vec_back _ h.2]
  simp only [Int.add_sub_cancel]
theorem host_back (n : Hs) (h : okH n = true) (r : ByteArray) : host ⟨pH n ++ r, false⟩ = (n, ⟨r, false⟩) := by
  simp only [okH, Bool.and_eq_true, ok_iff] at h
  unfold host pH
  rw [ba_cat, ba_cat, ba_cat, num_back _ h.1.1.1.1 h.1.1.1.2]
  simp only
  rw [num_back _ h.1.1.2.1 h.1.1.2.2]
  simp only
  rw [num_back _ h.1.2.1 h.1.2.2]
  simp only
  rw [vec_back _ h.2]
theorem gang_back (g : Gg) (h : okG g = true) (r : ByteArray) : gang ⟨pG g ++ r, false⟩ = (g, ⟨r, false⟩) := by
  simp only [okG, Bool.and_eq_true, ok_iff] at h
  unfold gang pG
  rw [ba_cat, ba_cat, ba_cat, ba_cat, ba_cat, ba_cat, num_back _ h.1.1.1.1.1.1.1 h.1.1.1.1.1.1.2]
  simp only
  rw [num_back _ h.1.1.1.1.1.2.1 h.1.1.1.1.1.2.2]
  simp only
  rw [num_back _ h.1.1.1.1.2.1 h.1.1.1.1.2.2]
  simp only
  rw [vec_back _ h.2]
  simp only
  rw [num_back _ h.1.1.1.2.1 h.1.1.1.2.2]
  simp only
  rw [num_back _ h.1.1.2.1 h.1.1.2.2]
  simp only
  rw [num_back _ h.1.2.1 h.1.2.2]

theorem many_back {α : Type} (g : St → α × St) (q : α → ByteArray) (o : α → Bool) (hb : ∀ x r, o x = true → g ⟨q x ++ r, false⟩ = (x, ⟨r, false⟩)) (m : Nat) (r : ByteArray) :
    ∀ (f : Nat) (l : List α) (a : List α), (∀ x ∈ l, o x = true) → f ≤ m → l.length ≤ f → many g ((m : Int) - f + l.length) m f ⟨cat q l r, false⟩ a = (a ++ l, ⟨r, false⟩)
  | 0, l, a, _, _, h => by
    have : l = [] := List.eq_nil_of_length_eq_zero (by omega)
    subst this
    simp [many, cat]
  | f + 1, [], a, _, hm, _ => by
    rw [many, if_neg (by simp only [List.length_nil]; omega)]
    simp [cat]
  | f + 1, x :: l, a, hx, hm, h => by
    rw [many, if_pos ⟨by simp only [List.length_cons]; omega, rfl⟩, cat, hb x _ (hx x (by simp))]
    simp only
    have ih := many_back g q o hb m r f l (a ++ [x]) (fun y hy => hx y (by simp [hy])) (by omega) (by simp only [List.length_cons] at h; omega)
    rw [show (m : Int) - (f + 1 : Nat) + ((x :: l).length : Nat) = (m : Int) - f + (l.length : Nat) by simp only [List.length_cons]; omega, ih, List.append_assoc]
    rfl

theorem ba_right (a : ByteArray) : a ++ (⟨#[]⟩ : ByteArray) = a := by apply ba_ext; rw [ba_app]; simp
theorem conf_back (c : Cmd) (h : okC c = true) (hn : c.nodes.length ≤ 12) (hh : c.hosts.length ≤ 24) : conf ⟨pC c, false⟩ = ((c.nodes, c.hosts, c.half, c.age), ⟨⟨#[]⟩, false⟩) := by
  simp only [okC, Bool.and_eq_true, ok_iff, List.all_eq_true] at h
  have e1 := many_back node pN okN (fun x r hx => node_back x hx r) 13 (pn c.hosts.length ++ cat pH c.hosts (pn c.half ++ pn c.age)) 13 c.nodes [] h.1.1.1 (by omega) (by omega)
  have e2 := many_back host pH okH (fun x r hx => host_back x hx r) 25 (pn c.half ++ pn c.age) 25 c.hosts [] h.1.1.2 (by omega) (by omega)
  rw [show ((13 : Nat) : Int) - (13 : Nat) + (c.nodes.length : Nat) = (c.nodes.length : Int) by omega] at e1
  rw [show ((25 : Nat) : Int) - (25 : Nat) + (c.hosts.length : Nat) = (c.hosts.length : Int) by omega] at e2
  have e4 : num ⟨pn c.age, false⟩ = (c.age, ⟨⟨#[]⟩, false⟩) := by have := num_back c.age h.2.1 h.2.2 ⟨#[]⟩; rwa [ba_right] at this
  unfold conf pC
  rw [num_back _ (by omega) (by omega)]
  simp only
  rw [e1]
  simp only
  rw [num_back _ (by omega) (by omega)]
  simp only
  rw [e2]
  simp only
  rw [num_back _ h.1.2.1 h.1.2.2]
  simp only
  rw [e4]
  simp only [List.nil_append]

theorem empty_iff (c : Cmd) : empty c = true ↔ c.nodes = [] ∧ c.hosts = [] ∧ c.half = 0 ∧ c.age = 0 := by
  simp [empty, and_assoc]
theorem check_zero {c : Cmd} (h : check c = 0) : fine c = true ∧ c.nodes.length ≤ 12 ∧ c.hosts.length ≤ 24 := by
  unfold check at h
  split at h
  · omega
  · rename_i h1
    split at h
    · omega
    · exact ⟨by simpa using h1, by omega, by omega⟩
theorem fine_kind {c : Cmd} (h : fine c = true) : 1 ≤ c.kind ∧ c.kind ≤ 6 := by
  unfold fine at h
  split at h
  · omega
  split at h
  · omega
  split at h
  · omega
  split at h
  · omega
  · cases h

theorem parse_put {c : Cmd} (h : check c = 0) : parse (put c) = (c, ⟨⟨#[]⟩, false⟩) := by
  obtain ⟨hf, hn, hh⟩ := check_zero h
  have hk := fine_kind hf
  unfold parse put
  rw [num_back c.kind (by omega) (by omega)]
  simp only
  unfold fine at hf
  by_cases k1 : c.kind = 1
  · rw [if_pos k1] at hf
    rw [if_pos k1, if_pos k1]
    simp only [Bool.and_eq_true, bare, decide_eq_true_eq] at hf
    rw [conf_back c hf.2 hn hh]
    simp only [Prod.mk.injEq, and_true]
    rw [Cmd.eq_iff]
    exact ⟨rfl, rfl, rfl, rfl, rfl, hf.1.1.symm, hf.1.2.symm⟩
  rw [if_neg k1] at hf
  rw [if_neg k1, if_neg k1]
  by_cases k2 : c.kind = 2
  · rw [if_pos k2] at hf
    rw [if_pos k2, if_pos k2]
    simp only [Bool.and_eq_true, decide_eq_true_eq, empty_iff] at hf
    have e := gang_back c.gang hf.2 ⟨#[]⟩
    rw [ba_right] at e
    rw [e]
    simp only [Prod.mk.injEq, and_true]
    rw [Cmd.eq_iff]
    exact ⟨rfl, hf.1.1.1.symm, hf.1.1.2.1.symm, hf.1.1.2.2.1.symm, hf.1.1.2.2.2.symm, rfl, hf.1.2.symm⟩
  rw [if_neg k2] at hf
  rw [if_neg k2, if_neg k2]
  by_cases k3 : c.kind = 3 ∨ c.kind = 4 ∨ c.kind = 5
  · rw [if_pos k3] at hf
    rw [if_pos k3, if_neg (by omega)]
    simp only [Bool.and_eq_true, bare, decide_eq_true_eq, empty_iff, ok_iff] at hf
    have e := num_back c.n hf.2.1 hf.2.2 ⟨#[]⟩
    rw [ba_right] at e
    rw [e]
    simp only [Prod.mk.injEq, and_true]
    rw [Cmd.eq_iff]
    exact ⟨rfl, hf.1.1.1.symm, hf.1.1.2.1.symm, hf.1.1.2.2.1.symm, hf.1.1.2.2.2.symm, hf.1.2.symm, rfl⟩
  rw [if_neg k3] at hf
  rw [if_neg k3]
  by_cases k6 : c.kind = 6
  · rw [if_pos k6] at hf
    rw [if_pos k6]
    simp only [Bool.and_eq_true, bare, decide_eq_true_eq, empty_iff] at hf
    simp only [Prod.mk.injEq, and_true]
    rw [Cmd.eq_iff]
    exact ⟨rfl, hf.1.1.1.symm, hf.1.1.2.1.symm, hf.1.1.2.2.1.symm, hf.1.1.2.2.2.symm, hf.1.2.symm, hf.2.symm⟩
  · rw [if_neg k6] at hf
    cases hf

/-- A command that may be told comes back. -/
theorem decode_put {c : Cmd} (h : check c = 0) : decode (put c) = (c, 0) := by
  have hw : wrong (put c) = false := by
    unfold wrong
    rw [parse_put h]
    simp [h]
  unfold decode
  rw [if_neg (by rw [hw]; simp), parse_put h]
/-- What is read is what is written. -/
theorem decode_only {s : ByteArray} (h : (decode s).2 = 0) : check (decode s).1 = 0 ∧ put (decode s).1 = s := by
  unfold decode at h ⊢
  split at h
  · simp at h
  · rename_i hw
    rw [if_neg hw]
    simp only [wrong, Bool.or_eq_true, decide_eq_true_eq, not_or, ne_eq, Decidable.not_not] at hw
    exact ⟨hw.1.2, hw.2⟩
/-- Whatever reads a command that may be told, reads it so; what is read as none is none's. -/
theorem decode_none {s : ByteArray} (h : ∀ c, check c = 0 → put c ≠ s) : decode s = (zero, 10) := by
  unfold decode
  rw [if_pos]
  cases hw : wrong s
  · simp only [wrong, Bool.or_eq_false_iff, decide_eq_false_iff_not, ne_eq, Decidable.not_not] at hw
    exact absurd hw.2 (h _ hw.1.2)
  · rfl
end Cm

end Go.Proofs.Ytkakgjmajplgmaa
