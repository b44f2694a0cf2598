/- VecEq Cmd CmdQ CmdA CmdB CmdD: joined. -/
import Derived.Test.YtkaikekibmgmmaaGa
import Derived.Laws.StructEq
import Derived.Deep.MidRow
import Derived.Deep.WholeRow
namespace Go.Proofs.Ytkaikekibmgmmaa
open Go.RowKit

set_option maxHeartbeats 400000 in
theorem vec_eqlIn (d : Nat) (w : World) (x y z u v t : Int) : (Op.equalIn (d + 1 + 1) 35 (.agg #[.int .i64 x, .int .i64 y, .int .i64 z]) (.agg #[.int .i64 u, .int .i64 v, .int .i64 t])).run Try.prog w = .ok (x == u && (y == v && z == t)) w := by
  have h := @run_equalIn_int Try.prog w d 3 .i64 .i64
  have hs : (sizeOf 3).run Try.prog w = .ok 1 w := by kernel_rfl
  rw [Op.equalIn]
  simp only [Sem.run_bind, run_underlying Try.underlying35, Result.andThen_ok, hs]
  have p0 : ∀ a b c : Value, (Go.part 3 #[a, b, c] 0).run Try.prog w = .ok a w := fun _ _ _ => by kernel_rfl
  have p1 : ∀ a b c : Value, (Go.part 3 #[a, b, c] 1).run Try.prog w = .ok b w := fun _ _ _ => by kernel_rfl
  have p2 : ∀ a b c : Value, (Go.part 3 #[a, b, c] 2).run Try.prog w = .ok c w := fun _ _ _ => by kernel_rfl
  have r3 : List.range' 0 3 1 = [0, 1, 2] := rfl
  have h' := fun a b => h a b Try.underlying3
  simp only [Std.Legacy.Range.forIn_eq_forIn_range', Std.Legacy.Range.size, Nat.sub_zero, Nat.add_sub_cancel, Nat.div_one, r3, List.forIn_cons, List.forIn_nil, Nat.mul_one, Sem.run_bind, p0, Result.andThen_ok, h']
  by_cases e0 : x = u <;> by_cases e1 : y = v <;> by_cases e2 : z = t <;> simp [e0, e1, e2, p1, p2, h']

theorem vec_eql (w : World) (x y z u v t : Int) : (binOp .eql 35 (.agg #[.int .i64 x, .int .i64 y, .int .i64 z]) (.agg #[.int .i64 u, .int .i64 v, .int .i64 t])).run Try.prog w = .ok (.bool (x == u && (y == v && z == t))) w := by
  rw [run_eql_struct, show (10000 : Nat) = 9998 + 1 + 1 from rfl, vec_eqlIn, Result.andThen_ok]

theorem vec_same (w : World) (x y z : Int) : (binOp .eql 35 (.agg #[.int .i64 x, .int .i64 y, .int .i64 z]) (.agg #[.int .i64 x, .int .i64 y, .int .i64 z])).run Try.prog w = .ok (.bool true) w := by
  rw [vec_eql]; simp

theorem vec_guard (w : World) (o : BinOp) (x y : Operand) (xs ys : Array Value) : (eqGuard o 35 x y (.agg xs) (.agg ys)).run Try.prog w = .ok () w := run_eqGuard_agg w o _ x y xs ys (by kernel_rfl)

end Go.Proofs.Ytkaikekibmgmmaa
namespace Go.Proofs.Ytkaikekibmgmmaa
open Go.RowKit
set_option linter.unusedVariables false

/-- An amount; a node; a host; a gang; a command. -/
structure V3 where
  x : Int
  y : Int
  z : Int
structure Nd where
  par : Int
  wt : Int
  nom : V3
  bor : V3
  lend : V3
structure Hs where
  fl : Int
  bl : Int
  ra : Int
  cap : V3
structure Gg where
  id : Int
  ten : Int
  pods : Int
  need : V3
  run : Int
  lev : Int
  pre : Int
structure Cmd where
  kind : Int
  nodes : List Nd
  hosts : List Hs
  half : Int
  age : Int
  gang : Gg
  n : Int

theorem V3.eq_iff (a b : V3) : a = b ↔ a.x = b.x ∧ a.y = b.y ∧ a.z = b.z := by
  constructor
  · rintro rfl; exact ⟨rfl, rfl, rfl⟩
  · cases a; cases b; rintro ⟨h1, h2, h3⟩; simp only at h1 h2 h3; subst h1 h2 h3; rfl
instance : DecidableEq V3 := fun a b => decidable_of_iff _ (V3.eq_iff a b).symm
theorem Nd.eq_iff (a b : Nd) : a = b ↔ a.par = b.par ∧ a.wt = b.wt ∧ a.nom = b.nom ∧ a.bor = b.bor ∧ a.lend = b.lend := by
  constructor
  · rintro rfl; exact ⟨rfl, rfl, rfl, rfl, rfl⟩
  · cases a; cases b; rintro ⟨h1, h2, h3, h4, h5⟩; simp only at h1 h2 h3 h4 h5; subst h1 h2 h3 h4 h5; rfl
instance : DecidableEq Nd := fun a b => decidable_of_iff _ (Nd.eq_iff a b).symm
theorem Hs.eq_iff (a b : Hs) : a = b ↔ a.fl = b.fl ∧ a.bl = b.bl ∧ a.ra = b.ra ∧ a.cap = b.cap := by
  constructor
  · rintro rfl; exact ⟨rfl, rfl, rfl, rfl⟩
  · cases a; cases b; rintro ⟨h1, h2, h3, h4⟩; simp only at h1 h2 h3 h4; subst h1 h2 h3 h4; rfl
instance : DecidableEq Hs := fun a b => decidable_of_iff _ (Hs.eq_iff a b).symm
theorem Gg.eq_iff (a b : Gg) : a = b ↔ a.id = b.id ∧ a.ten = b.ten ∧ a.pods = b.pods ∧ a.need = b.need ∧ a.run = b.run ∧ a.lev = b.lev ∧ a.pre = b.pre := by
  constructor
  · rintro rfl; exact ⟨rfl, rfl, rfl, rfl, rfl, rfl, rfl⟩
  · cases a; cases b; rintro ⟨h1, h2, h3, h4, h5, h6, h7⟩; simp only at h1 h2 h3 h4 h5 h6 h7; subst h1 h2 h3 h4 h5 h6 h7; rfl
instance : DecidableEq Gg := fun a b => decidable_of_iff _ (Gg.eq_iff a b).symm
theorem Cmd.eq_iff (a b : Cmd) : a = b ↔ a.kind = b.kind ∧ a.nodes = b.nodes ∧ a.hosts = b.hosts ∧ a.half = b.half ∧ a.age = b.age ∧ a.gang = b.gang ∧ a.n = b.n := by
  constructor
  · rintro rfl; exact ⟨rfl, rfl, rfl, rfl, rfl, rfl, rfl⟩
  · cases a; cases b; rintro ⟨h1, h2, h3, h4, h5, h6, h7⟩; simp only at h1 h2 h3 h4 h5 h6 h7; subst h1 h2 h3 h4 h5 h6 h7; rfl
instance : DecidableEq Cmd := fun a b => decidable_of_iff _ (Cmd.eq_iff a b).symm

namespace Cm
/-- May a number be told? -/
def ok (x : Int) : Bool := decide (0 ≤ x ∧ x ≤ 1099511627776)
def okV (v : V3) : Bool := ok v.x && ok v.y && ok v.z
def okP (x : Int) : Bool := decide (-1 ≤ x ∧ x ≤ 1099511627776)
def okN (n : Nd) : Bool := okP n.par && ok n.wt && okV n.nom && okV n.bor && okV n.lend
def okH (h : Hs) : Bool := ok h.fl && ok h.bl && ok h.ra && okV h.cap
def okG (g : Gg) : Bool := ok g.id && ok g.ten && ok g.pods && ok g.run && ok g.lev && ok g.pre && okV g.need
def zG : Gg := ⟨0, 0, 0, ⟨0, 0, 0⟩, 0, 0, 0⟩
def zero : Cmd := ⟨0, [], [], 0, 0, zG, 0⟩
def okC (c : Cmd) : Bool := c.nodes.all okN && c.hosts.all okH && ok c.half && ok c.age
def empty (c : Cmd) : Bool := decide (c.nodes.length = 0) && decide (c.hosts.length = 0) && decide (c.half = 0) && decide (c.age = 0)
def bare (g : Gg) : Bool := decide (g = zG)
def fine (c : Cmd) : Bool :=
  if c.kind = 1 then bare c.gang && decide (c.n = 0) && okC c
  else if c.kind = 2 then empty c && decide (c.n = 0) && okG c.gang
  else if c.kind = 3 ∨ c.kind = 4 ∨ c.kind = 5 then empty c && bare c.gang && ok c.n
  else if c.kind = 6 then empty c && bare c.gang && decide (c.n = 0)
  else false
def check (c : Cmd) : Int := if fine c = false then 1 else if 12 < c.nodes.length ∨ 24 < c.hosts.length then 8 else 0

def pn (x : Int) : ByteArray := Nu.put x.toNat
def pv (v : V3) : ByteArray := pn v.x ++ (pn v.y ++ pn v.z)
def pN (n : Nd) : ByteArray := pn (n.par + 1) ++ (pn n.wt ++ (pv n.nom ++ (pv n.bor ++ pv n.lend)))
def pH (h : Hs) : ByteArray := pn h.fl ++ (pn h.bl ++ (pn h.ra ++ pv h.cap))
def pG (g : Gg) : ByteArray := pn g.id ++ (pn g.ten ++ (pn g.pods ++ (pv g.need ++ (pn g.run ++ (pn g.lev ++ pn g.pre)))))
/-- Parts, one behind the other, ahead of r. -/
def cat {α : Type} (f : α → ByteArray) : List α → ByteArray → ByteArray
  | [], r => r
  | x :: l, r => f x ++ cat f l r
def pC (c : Cmd) : ByteArray := pn c.nodes.length ++ cat pN c.nodes (pn c.hosts.length ++ cat pH c.hosts (pn c.half ++ pn c.age))
def put (c : Cmd) : ByteArray := pn c.kind ++ (if c.kind = 1 then pC c else if c.kind = 2 then pG c.gang else if c.kind = 6 then ⟨#[]⟩ else pn c.n)

/-- Bytes that are left, and whether they were as they should not be. -/
structure St where
  s : ByteArray
  bad : Bool
def num (p : St) : Int × St := if (Nu.get p.s).2.2 ≠ 0 ∨ p.bad = true then (0, ⟨p.s, true⟩) else (((Nu.get p.s).1 : Int), ⟨p.s.extract (Nu.get p.s).2.1 p.s.size, false⟩)
def vec (p : St) : V3 × St := (⟨(num p).1, (num (num p).2).1, (num (num (num p).2).2).1⟩, (num (num (num p).2).2).2)
def node (p : St) : Nd × St :=
  (⟨(num p).1 - 1, (num (num p).2).1, (vec (num (num p).2).2).1, (vec (vec (num (num p).2).2).2).1, (vec (vec (vec (num (num p).2).2).2).2).1⟩, (vec (vec (vec (num (num p).2).2).2).2).2)
def host (p : St) : Hs × St :=
  (⟨(num p).1, (num (num p).2).1, (num (num (num p).2).2).1, (vec (num (num (num p).2).2).2).1⟩, (vec (num (num (num p).2).2).2).2)
def gang (p : St) : Gg × St :=
  (⟨(num p).1, (num (num p).2).1, (num (num (num p).2).2).1, (vec (num (num (num p).2).2).2).1, (num (vec (num (num (num p).2).2).2).2).1, (num (num (vec (num (num (num p).2).2).2).2).2).1, (num (num (num (vec (num (num (num p).2).2).2).2).2).2).1⟩, (num (num (num (vec (num (num (num p).2).2).2).2).2).2).2)
/-- The rest of a list: f rounds at most, of which each has read one more; m: as many as there can be. -/
def many {α : Type} (g : St → α × St) (n : Int) (m : Nat) : Nat → St → List α → List α × St
  | 0, p, l => (l, p)
  | f + 1, p, l => if (m : Int) - (f + 1) < n ∧ p.bad = false then many g n m f (g p).2 (l ++ [(g p).1]) else (l, p)
def conf (p : St) : (List Nd × List Hs × Int × Int) × St :=
  let a := many node (num p).1 13 13 (num p).2 []
  let b := many host (num a.2).1 25 25 (num a.2).2 []
  ((a.1, b.1, (num b.2).1, (num (num b.2).2).1), (num (num b.2).2).2)
def parse (s : ByteArray) : Cmd × St :=
  let k := num ⟨s, false⟩
  if k.1 = 1 then (⟨k.1, (conf k.2).1.1, (conf k.2).1.2.1, (conf k.2).1.2.2.1, (conf k.2).1.2.2.2, zG, 0⟩, (conf k.2).2)
  else if k.1 = 2 then (⟨k.1, [], [], 0, 0, (gang k.2).1, 0⟩, (gang k.2).2)
  else if k.1 = 3 ∨ k.1 = 4 ∨ k.1 = 5 then (⟨k.1, [], [], 0, 0, zG, (num k.2).1⟩, (num k.2).2)
  else (⟨k.1, [], [], 0, 0, zG, 0⟩, k.2)
def wrong (s : ByteArray) : Bool := (parse s).2.bad || decide ((parse s).2.s ≠ ⟨#[]⟩) || decide (check (parse s).1 ≠ 0) || decide (put (parse s).1 ≠ s)
def decode (s : ByteArray) : Cmd × Int := if wrong s = true then (zero, 10) else ((parse s).1, 0)
def encode (c : Cmd) : ByteArray × Int := if check c ≠ 0 then (⟨#[]⟩, check c) else (put c, 0)

theorem ok_iff (x : Int) : ok x = true ↔ 0 ≤ x ∧ x ≤ 1099511627776 := by simp [ok]
theorem okP_iff (x : Int) : okP x = true ↔ -1 ≤ x ∧ x ≤ 1099511627776 := by simp [okP]

theorem num_up (x : Int) (h0 : 0 ≤ x) (h1 : x ≤ 1099511627777) (r : ByteArray) : num ⟨pn x ++ r, false⟩ = (x, ⟨r, false⟩) := by
  unfold num pn
  rw [Nu.get_back x.toNat (by omega) r]
  simp only [ne_eq, not_true, Bool.false_eq_true, or_self, ite_false, Prod.mk.injEq]
  refine ⟨by omega, ?_⟩
  rw [ba_past]
theorem num_back (x : Int) (h0 : 0 ≤ x) (h1 : x ≤ 1099511627776) (r : ByteArray) : num ⟨pn x ++ r, false⟩ = (x, ⟨r, false⟩) := num_up x h0 (by omega) r
theorem vec_back (v : V3) (h : okV v = true) (r : ByteArray) : vec ⟨pv v ++ r, false⟩ = (v, ⟨r, false⟩) := by
  simp only [okV, Bool.and_eq_true, ok_iff] at h
  unfold vec pv
  rw [ba_cat, ba_cat, num_back v.x h.1.1.1 h.1.1.2]
  simp only
  rw [num_back v.y h.1.2.1 h.1.2.2]
  simp only
  rw [num_back v.z h.2.1 h.2.2]
theorem node_back (n : Nd) (h : okN n = true) (r : ByteArray) : node ⟨pN n ++ r, false⟩ = (n, ⟨r, false⟩) := by
  simp only [okN, Bool.and_eq_true, ok_iff, okP_iff] at h
  unfold node pN
  rw [ba_cat, ba_cat, ba_cat, ba_cat, num_up (n.par + 1) (by have := h.1.1.1.1; omega) (by have := h.1.1.1.1; omega)]
  simp only
  rw [num_back n.wt h.1.1.1.2.1 h.1.1.1.2.2]
  simp only
  rw [vec_back _ h.1.1.2]
  simp only
  rw [vec_back _ h.1.2]
  simp only
  rw [vec_back _ h.2]
  simp only [Int.add_sub_cancel]
theorem host_back (n : Hs) (h : okH n = true) (r : ByteArray) : host ⟨pH n ++ r, false⟩ = (n, ⟨r, false⟩) := by
  simp only [okH, Bool.and_eq_true, ok_iff] at h
  unfold host pH
  rw [ba_cat, ba_cat, ba_cat, num_back _ h.1.1.1.1 h.1.1.1.2]
  simp only
  rw [num_back _ h.1.1.2.1 h.1.1.2.2]
  simp only
  rw [num_back _ h.1.2.1 h.1.2.2]
  simp only
  rw [vec_back _ h.2]
theorem gang_back (g : Gg) (h : okG g = true) (r : ByteArray) : gang ⟨pG g ++ r, false⟩ = (g, ⟨r, false⟩) := by
  simp only [okG, Bool.and_eq_true, ok_iff] at h
  unfold gang pG
  rw [ba_cat, ba_cat, ba_cat, ba_cat, ba_cat, ba_cat, num_back _ h.1.1.1.1.1.1.1 h.1.1.1.1.1.1.2]
  simp only
  rw [num_back _ h.1.1.1.1.1.2.1 h.1.1.1.1.1.2.2]
  simp only
  rw [num_back _ h.1.1.1.1.2.1 h.1.1.1.1.2.2]
  simp only
  rw [vec_back _ h.2]
  simp only
  rw [num_back _ h.1.1.1.2.1 h.1.1.1.2.2]
  simp only
  rw [num_back _ h.1.1.2.1 h.1.1.2.2]
  simp only
  rw [num_back _ h.1.2.1 h.1.2.2]

theorem many_back {α : Type} (g : St → α × St) (q : α → ByteArray) (o : α → Bool) (hb : ∀ x r, o x = true → g ⟨q x ++ r, false⟩ = (x, ⟨r, false⟩)) (m : Nat) (r : ByteArray) :
    ∀ (f : Nat) (l : List α) (a : List α), (∀ x ∈ l, o x = true) → f ≤ m → l.length ≤ f → many g ((m : Int) - f + l.length) m f ⟨cat q l r, false⟩ a = (a ++ l, ⟨r, false⟩)
  | 0, l, a, _, _, h => by
    have : l = [] := List.eq_nil_of_length_eq_zero (by omega)
    subst this
    simp [many, cat]
  | f + 1, [], a, _, hm, _ => by
    rw [many, if_neg (by simp only [List.length_nil]; omega)]
    simp [cat]
  | f + 1, x :: l, a, hx, hm, h => by
    rw [many, if_pos ⟨by simp only [List.length_cons]; omega, rfl⟩, cat, hb x _ (hx x (by simp))]
    simp only
    have ih := many_back g q o hb m r f l (a ++ [x]) (fun y hy => hx y (by simp [hy])) (by omega) (by simp only [List.length_cons] at h; omega)
    rw [show (m : Int) - (f + 1 : Nat) + ((x :: l).length : Nat) = (m : Int) - f + (l.length : Nat) by simp only [List.length_cons]; omega, ih, List.append_assoc]
    rfl

theorem ba_right (a : ByteArray) : a ++ (⟨#[]⟩ : ByteArray) = a := by apply ba_ext; rw [ba_app]; simp
theorem conf_back (c : Cmd) (h : okC c = true) (hn : c.nodes.length ≤ 12) (hh : c.hosts.length ≤ 24) : conf ⟨pC c, false⟩ = ((c.nodes, c.hosts, c.half, c.age), ⟨⟨#[]⟩, false⟩) := by
  simp only [okC, Bool.and_eq_true, ok_iff, List.all_eq_true] at h
  have e1 := many_back node pN okN (fun x r hx => node_back x hx r) 13 (pn c.hosts.length ++ cat pH c.hosts (pn c.half ++ pn c.age)) 13 c.nodes [] h.1.1.1 (by omega) (by omega)
  have e2 := many_back host pH okH (fun x r hx => host_back x hx r) 25 (pn c.half ++ pn c.age) 25 c.hosts [] h.1.1.2 (by omega) (by omega)
  rw [show ((13 : Nat) : Int) - (13 : Nat) + (c.nodes.length : Nat) = (c.nodes.length : Int) by omega] at e1
  rw [show ((25 : Nat) : Int) - (25 : Nat) + (c.hosts.length : Nat) = (c.hosts.length : Int) by omega] at e2
  have e4 : num ⟨pn c.age, false⟩ = (c.age, ⟨⟨#[]⟩, false⟩) := by have := num_back c.age h.2.1 h.2.2 ⟨#[]⟩; rwa [ba_right] at this
  unfold conf pC
  rw [num_back _ (by omega) (by omega)]
  simp only
  rw [e1]
  simp only
  rw [num_back _ (by omega) (by omega)]
  simp only
  rw [e2]
  simp only
  rw [num_back _ h.1.2.1 h.1.2.2]
  simp only
  rw [e4]
  simp only [List.nil_append]

theorem empty_iff (c : Cmd) : empty c = true ↔ c.nodes = [] ∧ c.hosts = [] ∧ c.half = 0 ∧ c.age = 0 := by
  simp [empty, and_assoc]
theorem check_zero {c : Cmd} (h : check c = 0) : fine c = true ∧ c.nodes.length ≤ 12 ∧ c.hosts.length ≤ 24 := by
  unfold check at h
  split at h
  · omega
  · rename_i h1
    split at h
    · omega
    · exact ⟨by simpa using h1, by omega, by omega⟩
theorem fine_kind {c : Cmd} (h : fine c = true) : 1 ≤ c.kind ∧ c.kind ≤ 6 := by
  unfold fine at h
  split at h
  · omega
  split at h
  · omega
  split at h
  · omega
  split at h
  · omega
  · cases h

theorem parse_put {c : Cmd} (h : check c = 0) : parse (put c) = (c, ⟨⟨#[]⟩, false⟩) := by
  obtain ⟨hf, hn, hh⟩ := check_zero h
  have hk := fine_kind hf
  unfold parse put
  rw [num_back c.kind (by omega) (by omega)]
  simp only
  unfold fine at hf
  by_cases k1 : c.kind = 1
  · rw [if_pos k1] at hf
    rw [if_pos k1, if_pos k1]
    simp only [Bool.and_eq_true, bare, decide_eq_true_eq] at hf
    rw [conf_back c hf.2 hn hh]
    simp only [Prod.mk.injEq, and_true]
    rw [Cmd.eq_iff]
    exact ⟨rfl, rfl, rfl, rfl, rfl, hf.1.1.symm, hf.1.2.symm⟩
  rw [if_neg k1] at hf
  rw [if_neg k1, if_neg k1]
  by_cases k2 : c.kind = 2
  · rw [if_pos k2] at hf
    rw [if_pos k2, if_pos k2]
    simp only [Bool.and_eq_true, decide_eq_true_eq, empty_iff] at hf
    have e := gang_back c.gang hf.2 ⟨#[]⟩
    rw [ba_right] at e
    rw [e]
    simp only [Prod.mk.injEq, and_true]
    rw [Cmd.eq_iff]
    exact ⟨rfl, hf.1.1.1.symm, hf.1.1.2.1.symm, hf.1.1.2.2.1.symm, hf.1.1.2.2.2.symm, rfl, hf.1.2.symm⟩
  rw [if_neg k2] at hf
  rw [if_neg k2, if_neg k2]
  by_cases k3 : c.kind = 3 ∨ c.kind = 4 ∨ c.kind = 5
  · rw [if_pos k3] at hf
    rw [if_pos k3, if_neg (by omega)]
    simp only [Bool.and_eq_true, bare, decide_eq_true_eq, empty_iff, ok_iff] at hf
    have e := num_back c.n hf.2.1 hf.2.2 ⟨#[]⟩
    rw [ba_right] at e
    rw [e]
    simp only [Prod.mk.injEq, and_true]
    rw [Cmd.eq_iff]
    exact ⟨rfl, hf.1.1.1.symm, hf.1.1.2.1.symm, hf.1.1.2.2.1.symm, hf.1.1.2.2.2.symm, hf.1.2.symm, rfl⟩
  rw [if_neg k3] at hf
  rw [if_neg k3]
  by_cases k6 : c.kind = 6
  · rw [if_pos k6] at hf
    rw [if_pos k6]
    simp only [Bool.and_eq_true, bare, decide_eq_true_eq, empty_iff] at hf
    simp only [Prod.mk.injEq, and_true]
    rw [Cmd.eq_iff]
    exact ⟨rfl, hf.1.1.1.symm, hf.1.1.2.1.symm, hf.1.1.2.2.1.symm, hf.1.1.2.2.2.symm, hf.1.2.symm, hf.2.symm⟩
  · rw [if_neg k6] at hf
    cases hf

/-- A command that may be told comes back. -/
theorem decode_put {c : Cmd} (h : check c = 0) : decode (put c) = (c, 0) := by
  have hw : wrong (put c) = false := by
    unfold wrong
    rw [parse_put h]
    simp [h]
  unfold decode
  rw [if_neg (by rw [hw]; simp), parse_put h]
/-- What is read is what is written. -/
theorem decode_only {s : ByteArray} (h : (decode s).2 = 0) : check (decode s).1 = 0 ∧ put (decode s).1 = s := by
  unfold decode at h ⊢
  split at h
  · simp at h
  · rename_i hw
    rw [if_neg hw]
    simp only [wrong, Bool.or_eq_true, decide_eq_true_eq, not_or, ne_eq, Decidable.not_not] at hw
    exact ⟨hw.1.2, hw.2⟩
/-- Whatever reads a command that may be told, reads it so; what is read as none is none's. -/
theorem decode_none {s : ByteArray} (h : ∀ c, check c = 0 → put c ≠ s) : decode s = (zero, 10) := by
  unfold decode
  rw [if_pos]
  cases hw : wrong s
  · simp only [wrong, Bool.or_eq_false_iff, decide_eq_false_iff_not, ne_eq, Decidable.not_not] at hw
    exact absurd hw.2 (h _ hw.1.2)
  · rfl
end Cm

end Go.Proofs.Ytkaikekibmgmmaa
namespace Go.Proofs.Ytkaikekibmgmmaa
open Go.RowKit
set_option linter.unusedVariables false

/-- A value's cells. -/
def V3.c (v : V3) : Array Value := #[.int .i64 v.x, .int .i64 v.y, .int .i64 v.z]
def Nd.c (n : Nd) : Array Value := #[.int .i64 n.par, .int .i64 n.wt, .int .i64 n.nom.x, .int .i64 n.nom.y, .int .i64 n.nom.z, .int .i64 n.bor.x, .int .i64 n.bor.y, .int .i64 n.bor.z, .int .i64 n.lend.x, .int .i64 n.lend.y, .int .i64 n.lend.z]
def Hs.c (h : Hs) : Array Value := #[.int .i64 h.fl, .int .i64 h.bl, .int .i64 h.ra, .int .i64 h.cap.x, .int .i64 h.cap.y, .int .i64 h.cap.z]
def Gg.c (g : Gg) : Array Value := #[.int .i64 g.id, .int .i64 g.ten, .int .i64 g.pods, .int .i64 g.need.x, .int .i64 g.need.y, .int .i64 g.need.z, .int .i64 g.run, .int .i64 g.lev, .int .i64 g.pre]

section
variable {P : Program} {w : World}
theorem fieldsOf_of {t : TypeId} {fs : Array Field} (h : P.underlying t = some (.struct fs)) : P.fieldsOf t = fs := by simp [Program.fieldsOf, h]
theorem eqF_nil (d : Nat) (xs ys : Array Value) : (Op.eqFields d xs ys []).run P w = .ok true w := rfl
theorem eqF_cons {d : Nat} {xs ys : Array Value} {f : Field} {fs : List Field} {v q : Bool} (a b : Value) (hf : f.name ≠ "_") (ha : (part f.type xs f.offset).run P w = .ok a w) (hb : (part f.type ys f.offset).run P w = .ok b w)
    (hv : (Op.equalIn d f.type a b).run P w = .ok v w) (hq : (Op.eqFields d xs ys fs).run P w = .ok q w) : (Op.eqFields d xs ys (f :: fs)).run P w = .ok (v && q) w := by
  unfold Op.eqFields
  rw [if_pos hf]
  simp only [Sem.run_bind, ha, hb, hv, Result.andThen_ok]
  cases v
  · simp
  · simp [hq]
end

theorem v3_eqlIn (d : Nat) (w : World) (a b : V3) : (Op.equalIn (d + 1 + 1) 35 (.agg #[.int .i64 a.x, .int .i64 a.y, .int .i64 a.z]) (.agg #[.int .i64 b.x, .int .i64 b.y, .int .i64 b.z])).run Try.prog w = .ok (decide (a = b)) w := by
  rw [vec_eqlIn]
  congr 1
  rw [Bool.eq_iff_iff]
  simp [V3.eq_iff]
theorem int_eqlIn (d : Nat) (w : World) (a b : Int) : (Op.equalIn (d + 1) 3 (.int .i64 a) (.int .i64 b)).run Try.prog w = .ok (a == b) w := run_equalIn_int w d _ _ _ _ _ Try.underlying3

set_option maxRecDepth 20000 in
theorem gang_eqlIn (w : World) (g h : Gg) : (Op.equalIn 10000 71 (.agg g.c) (.agg h.c)).run Try.prog w = .ok (decide (g = h)) w := by
  rw [show (10000 : Nat) = 9997 + 1 + 1 + 1 from rfl, run_equalIn_struct w _ _ _ _ (by rw [fieldsOf_of Try.underlying71]; exact Try.underlying71) (by kernel_rfl), fieldsOf_of Try.underlying71]
  have e : (decide (g = h)) = (g.id == h.id && (g.ten == h.ten && (g.pods == h.pods && (decide (g.need = h.need) && (g.run == h.run && (g.lev == h.lev && (g.pre == h.pre && true))))))) := by
    rw [Bool.eq_iff_iff]
    simp [Gg.eq_iff]
  rw [e]
  refine eqF_cons (.int .i64 g.id) (.int .i64 h.id) (by decide) rfl rfl (int_eqlIn _ _ _ _) ?_
  refine eqF_cons (.int .i64 g.ten) (.int .i64 h.ten) (by decide) rfl rfl (int_eqlIn _ _ _ _) ?_
  refine eqF_cons (.int .i64 g.pods) (.int .i64 h.pods) (by decide) rfl rfl (int_eqlIn _ _ _ _) ?_
  refine eqF_cons (.agg #[.int .i64 g.need.x, .int .i64 g.need.y, .int .i64 g.need.z]) (.agg #[.int .i64 h.need.x, .int .i64 h.need.y, .int .i64 h.need.z]) (by decide) rfl rfl (v3_eqlIn _ _ _ _) ?_
  refine eqF_cons (.int .i64 g.run) (.int .i64 h.run) (by decide) rfl rfl (int_eqlIn _ _ _ _) ?_
  refine eqF_cons (.int .i64 g.lev) (.int .i64 h.lev) (by decide) rfl rfl (int_eqlIn _ _ _ _) ?_
  refine eqF_cons (.int .i64 g.pre) (.int .i64 h.pre) (by decide) rfl rfl (int_eqlIn _ _ _ _) ?_
  exact eqF_nil _ _ _

set_option maxRecDepth 20000 in
theorem node_eqlIn (w : World) (g h : Nd) : (Op.equalIn 10000 60 (.agg g.c) (.agg h.c)).run Try.prog w = .ok (decide (g = h)) w := by
  rw [show (10000 : Nat) = 9997 + 1 + 1 + 1 from rfl, run_equalIn_struct w _ _ _ _ (by rw [fieldsOf_of Try.underlying60]; exact Try.underlying60) (by kernel_rfl), fieldsOf_of Try.underlying60]
  have e : (decide (g = h)) = (g.par == h.par && (g.wt == h.wt && (decide (g.nom = h.nom) && (decide (g.bor = h.bor) && (decide (g.lend = h.lend) && true))))) := by
    rw [Bool.eq_iff_iff]
    simp [Nd.eq_iff]
  rw [e]
  refine eqF_cons (.int .i64 g.par) (.int .i64 h.par) (by decide) rfl rfl (int_eqlIn _ _ _ _) ?_
  refine eqF_cons (.int .i64 g.wt) (.int .i64 h.wt) (by decide) rfl rfl (int_eqlIn _ _ _ _) ?_
  refine eqF_cons (.agg #[.int .i64 g.nom.x, .int .i64 g.nom.y, .int .i64 g.nom.z]) (.agg #[.int .i64 h.nom.x, .int .i64 h.nom.y, .int .i64 h.nom.z]) (by decide) rfl rfl (v3_eqlIn _ _ _ _) ?_
  refine eqF_cons (.agg #[.int .i64 g.bor.x, .int .i64 g.bor.y, .int .i64 g.bor.z]) (.agg #[.int .i64 h.bor.x, .int .i64 h.bor.y, .int .i64 h.bor.z]) (by decide) rfl rfl (v3_eqlIn _ _ _ _) ?_
  refine eqF_cons (.agg #[.int .i64 g.lend.x, .int .i64 g.lend.y, .int .i64 g.lend.z]) (.agg #[.int .i64 h.lend.x, .int .i64 h.lend.y, .int .i64 h.lend.z]) (by decide) rfl rfl (v3_eqlIn _ _ _ _) ?_
  exact eqF_nil _ _ _

set_option maxRecDepth 20000 in
theorem host_eqlIn (w : World) (g h : Hs) : (Op.equalIn 10000 58 (.agg g.c) (.agg h.c)).run Try.prog w = .ok (decide (g = h)) w := by
  rw [show (10000 : Nat) = 9997 + 1 + 1 + 1 from rfl, run_equalIn_struct w _ _ _ _ (by rw [fieldsOf_of Try.underlying58]; exact Try.underlying58) (by kernel_rfl), fieldsOf_of Try.underlying58]
  have e : (decide (g = h)) = (g.fl == h.fl && (g.bl == h.bl && (g.ra == h.ra && (decide (g.cap = h.cap) && true)))) := by
    rw [Bool.eq_iff_iff]
    simp [Hs.eq_iff]
  rw [e]
  refine eqF_cons (.int .i64 g.fl) (.int .i64 h.fl) (by decide) rfl rfl (int_eqlIn _ _ _ _) ?_
  refine eqF_cons (.int .i64 g.bl) (.int .i64 h.bl) (by decide) rfl rfl (int_eqlIn _ _ _ _) ?_
  refine eqF_cons (.int .i64 g.ra) (.int .i64 h.ra) (by decide) rfl rfl (int_eqlIn _ _ _ _) ?_
  refine eqF_cons (.agg #[.int .i64 g.cap.x, .int .i64 g.cap.y, .int .i64 g.cap.z]) (.agg #[.int .i64 h.cap.x, .int .i64 h.cap.y, .int .i64 h.cap.z]) (by decide) rfl rfl (v3_eqlIn _ _ _ _) ?_
  exact eqF_nil _ _ _

theorem gang_eql (w : World) (g h : Gg) : (binOp .eql 71 (.agg g.c) (.agg h.c)).run Try.prog w = .ok (.bool (decide (g = h))) w := by
  rw [run_eql_struct, gang_eqlIn, Result.andThen_ok]
theorem gang_guard (w : World) (o : BinOp) (x y : Operand) (xs ys : Array Value) : (eqGuard o 71 x y (.agg xs) (.agg ys)).run Try.prog w = .ok () w := run_eqGuard_agg w o _ x y xs ys (by kernel_rfl)

theorem node_neq (w : World) (g h : Nd) : (binOp .neq 60 (.agg g.c) (.agg h.c)).run Try.prog w = .ok (.bool (!decide (g = h))) w := by
  rw [run_neq_struct, node_eqlIn, Result.andThen_ok]
theorem node_guard (w : World) (o : BinOp) (x y : Operand) (xs ys : Array Value) : (eqGuard o 60 x y (.agg xs) (.agg ys)).run Try.prog w = .ok () w := run_eqGuard_agg w o _ x y xs ys (by kernel_rfl)

theorem host_neq (w : World) (g h : Hs) : (binOp .neq 58 (.agg g.c) (.agg h.c)).run Try.prog w = .ok (.bool (!decide (g = h))) w := by
  rw [run_neq_struct, host_eqlIn, Result.andThen_ok]
theorem host_guard (w : World) (o : BinOp) (x y : Operand) (xs ys : Array Value) : (eqGuard o 58 x y (.agg xs) (.agg ys)).run Try.prog w = .ok () w := run_eqGuard_agg w o _ x y xs ys (by kernel_rfl)

end Go.Proofs.Ytkaikekibmgmmaa
namespace Go.Proofs.Ytkaikekibmgmmaa
open Go.RowKit
set_option linter.unusedVariables false

/-- A slice of flat structs of k cells: where each lies, what it holds. -/
structure Sl {α : Type} (enc : α → Array Value) (T : TypeId) (k : Nat) (w : World) (ao : Option Addr) (cap bb oo : Nat) (l : List α) : Prop where
  small : l.length ≤ 9223372036854775807
  lt : 0 < l.length → bb < w.heap.size
  idx : ∀ i : Nat, i < l.length → ∀ w0, (Instr.indexAt T (.slice ao l.length cap) (.int .i64 (i : Int))).run Try.prog w0 = .ok (.pointer (some ⟨bb, oo + i * k, none⟩)) w0
  at_ : ∀ (i : Nat) x, l[i]? = some x → w.rangeAt bb (oo + i * k) (enc x).toList

theorem Sl.kept {α : Type} {enc : α → Array Value} {T : TypeId} {k : Nat} {w w' : World} {ao : Option Addr} {cap bb oo : Nat} {l : List α} (h : Sl enc T k w ao cap bb oo l) (g : Below w.heap.size w w') : Sl enc T k w' ao cap bb oo l :=
  ⟨h.small, fun h0 => Nat.lt_of_lt_of_le (h.lt h0) g.size, h.idx, fun i x hi j v hj => by
    have hl : i < l.length := by
      rcases Nat.lt_or_ge i l.length with q | q
      · exact q
      · rw [List.getElem?_eq_none q] at hi; cases hi
    exact (g.cell (p := ⟨bb, _, none⟩) (h.lt (by omega))).trans (h.at_ i x hi j v hj)⟩
/-- The same from a base below which all is as it was. -/
theorem Sl.from {α : Type} {enc : α → Array Value} {T : TypeId} {k B : Nat} {w w' : World} {ao : Option Addr} {cap bb oo : Nat} {l : List α} (h : Sl enc T k w ao cap bb oo l) (hB : w.heap.size ≤ B) (g : Below B w w') : Sl enc T k w' ao cap bb oo l := h.kept (g.mono hB)

def Cf (nv hv : Value) (half age : Int) : Array Value := #[nv, hv, .int .i64 half, .int .i64 age]
def Cmd.c (c : Cmd) (nv hv : Value) : Array Value := #[.int .i64 c.kind, nv, hv, .int .i64 c.half, .int .i64 c.age, .int .i64 c.gang.id, .int .i64 c.gang.ten, .int .i64 c.gang.pods, .int .i64 c.gang.need.x, .int .i64 c.gang.need.y, .int .i64 c.gang.need.z, .int .i64 c.gang.run, .int .i64 c.gang.lev, .int .i64 c.gang.pre, .int .i64 c.n]

/-- Numbers in a block that was just made. -/
theorem in_cells (w : World) (l : List Int) (T : TypeId) : ∀ (j : Nat) x, l[j]? = some x → (w.alloc (.cells (l.map (Value.int .i64)).toArray T)).cell? ⟨w.heap.size, j, none⟩ = some (.int .i64 x) := by
  intro j x hx
  refine (World.cell?_alloc_at (w := w) _ _ _ j rfl).trans ?_
  simp [hx]

theorem range_new (w : World) (cs : Array Value) (t : TypeId) (o : Nat) (l : List Value) (h : ∀ j v, l[j]? = some v → cs[o + j]? = some v) : (w.alloc (.cells cs t)).rangeAt w.heap.size o l := fun j v hj => (World.cell?_alloc_at (w := w) _ _ _ _ rfl).trans (h j v hj)
theorem range_kept {w w' : World} {b o : Nat} {l : List Value} (h : w.rangeAt b o l) (hb : b < w.heap.size) (g : Below w.heap.size w w') : w'.rangeAt b o l := fun j v hj => (g.cell (p := ⟨b, o + j, none⟩) hb).trans (h j v hj)
theorem three_at {a b c : Value} {cs : Array Value} {o : Nat} (h0 : cs[o]? = some a) (h1 : cs[o + 1]? = some b) (h2 : cs[o + 2]? = some c) : ∀ j v, [a, b, c][j]? = some v → cs[o + j]? = some v := by
  intro j v hj
  rcases j with _ | _ | _ | j
  · simp only [List.getElem?_cons_zero] at hj; rw [← hj]; exact h0
  · simp only [List.getElem?_cons_succ, List.getElem?_cons_zero] at hj; rw [← hj]; exact h1
  · simp only [List.getElem?_cons_succ, List.getElem?_cons_zero] at hj; rw [← hj]; exact h2
  · simp at hj

end Go.Proofs.Ytkaikekibmgmmaa
namespace Go.Proofs.Ytkaikekibmgmmaa
open Go.RowKit
set_option linter.unusedVariables false

/-- A node's amounts in a block that was just made. -/
theorem node_at (w : World) (cs : Array Value) (t u : TypeId) (ds : Array Value) (o : Nat) {a b c : Value} (h0 : cs[o]? = some a) (h1 : cs[o + 1]? = some b) (h2 : cs[o + 2]? = some c) : ((w.alloc (.cells cs t)).alloc (.cells ds u)).rangeAt w.heap.size o [a, b, c] :=
  range_kept (range_new w cs t o _ (three_at h0 h1 h2)) (by simp) ((Below.refl _ _).alloc (Nat.le_refl _) _)
theorem range_three {w : World} {b o : Nat} {a0 a1 a2 : Value} (h : w.rangeAt b o [a0, a1, a2]) : w.cell? ⟨b, o, none⟩ = some a0 ∧ w.cell? ⟨b, o + 1, none⟩ = some a1 ∧ w.cell? ⟨b, o + 2, none⟩ = some a2 := ⟨h 0 _ rfl, h 1 _ rfl, h 2 _ rfl⟩
theorem two_below (w : World) (a b : Obj) : Below w.heap.size w ((w.alloc a).alloc b) := ((Below.refl _ _).alloc (Nat.le_refl _) _).alloc (by simp) _

theorem okC_node {c : Cmd} {k : Nat} {x : Nd} (h : c.nodes[k]? = some x) (hx : Cm.okN x = false) : Cm.okC c = false := by
  have : c.nodes.all Cm.okN = false := by
    rw [List.all_eq_false]
    exact ⟨x, List.mem_of_getElem? h, by simp [hx]⟩
  simp [Cm.okC, this]
theorem okC_host {c : Cmd} {k : Nat} {x : Hs} (h : c.hosts[k]? = some x) (hx : Cm.okH x = false) : Cm.okC c = false := by
  have : c.hosts.all Cm.okH = false := by
    rw [List.all_eq_false]
    exact ⟨x, List.mem_of_getElem? h, by simp [hx]⟩
  simp [Cm.okC, this]
theorem okN_par {n : Nd} (h : ¬ (-1 ≤ n.par ∧ n.par ≤ 1099511627776)) : Cm.okN n = false := by
  have e : Cm.okP n.par = false := by unfold Cm.okP; exact decide_eq_false h
  simp [Cm.okN, e]
/-- All elements so far. -/
def Upto {α : Type} (o : α → Bool) (l : List α) (j : Int) : Prop := ∀ k : Nat, k < j.toNat → ∀ x, l[k]? = some x → o x = true
theorem Upto.zero {α : Type} (o : α → Bool) (l : List α) : Upto o l 0 := fun k hk => by simp at hk
theorem Upto.succ {α : Type} {o : α → Bool} {l : List α} {j : Int} {x : α} (h : Upto o l j) (h0 : 0 ≤ j) (hx : l[j.toNat]? = some x) (ho : o x = true) : Upto o l (j + 1) := by
  intro k hk y hy
  by_cases e : k = j.toNat
  · subst e
    rw [hx] at hy
    injection hy with hy
    rw [← hy]; exact ho
  · exact h k (by omega) y hy
theorem Upto.all {α : Type} {o : α → Bool} {l : List α} {j : Int} (h : Upto o l j) (hj : (l.length : Int) ≤ j) : l.all o = true := by
  rw [List.all_eq_true]
  intro x hx
  obtain ⟨k, hk, e⟩ := List.mem_iff_getElem.1 hx
  exact h k (by omega) x (by rw [List.getElem?_eq_getElem hk, e])

theorem node_len : (Try.prog.info? 60).map (·.size) = some 11 := by kernel_rfl
theorem host_len : (Try.prog.info? 58).map (·.size) = some 6 := by kernel_rfl

end Go.Proofs.Ytkaikekibmgmmaa
namespace Go.Proofs.Ytkaikekibmgmmaa
open Go.RowKit
set_option linter.unusedVariables false

/-- Whether a command is fine, what Check says. -/
theorem check_no {c : Cmd} (h : Cm.fine c = false) : Cm.check c = 1 := by unfold Cm.check; rw [if_pos h]
theorem check_yes {c : Cmd} (h : Cm.fine c = true) : Cm.check c = if 12 < c.nodes.length ∨ 24 < c.hosts.length then 8 else 0 := by unfold Cm.check; rw [if_neg (by rw [h]; simp)]

end Go.Proofs.Ytkaikekibmgmmaa
