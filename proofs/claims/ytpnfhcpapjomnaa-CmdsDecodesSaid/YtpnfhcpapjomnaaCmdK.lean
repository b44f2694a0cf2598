/- The plain answer's Decode. -/
import Derived.Test.YtpnfhcpapjomnaaCmdJ
import Derived.Test.YtpnfhcpapjomnaaCmdT
namespace Go.Proofs.Ytpnfhcpapjomnaa
open Go.RowKit
set_option linter.unusedVariables false

theorem rCheckAt {c : Cmd} {vn vh : Value} {w : World} (h : CmAt c vn vh w) : Calls Try.prog 13 #[.agg (c.c vn vh)] w (RetBelow (.int .i64 (Cm.check c)) w) := by
  obtain ⟨an, cn, nb, no, ah, ch, hb, ho, rfl, rfl, h1, h2⟩ := h
  exact rCheck_any c an ah cn ch nb no hb ho w h1 h2
theorem rPutAt {c : Cmd} {vn vh : Value} {w : World} (h : CmAt c vn vh w) (hc : Cm.check c = 0) : Calls Try.prog 21 #[.agg (c.c vn vh)] w (RetBelow (.string (Cm.put c)) w) := by
  obtain ⟨an, cn, nb, no, ah, ch, hb, ho, rfl, rfl, h1, h2⟩ := h
  exact rPutCmd_any c hc an ah cn ch nb no hb ho w h1 h2

theorem below_row {B : Nat} {u w : World} (h : Below B u w) {g : Nat} (hp : B ≤ g) (cs : Array Value) : Below B u (w.setRow g cs) :=
  ⟨h.os, h.tape, h.output, Nat.le_trans h.size (by simp), fun k hk => by
    rw [setRow_other w g k cs (by omega)]
    exact h.block k hk⟩
theorem ba_ne {x y : ByteArray} (h : x ≠ y) : (x.toList == y.toList) = false := by
  rcases hq : (x.toList == y.toList) with _ | _
  · rfl
  · refine absurd (ba_ext ?_) h
    have := eq_of_beq hq
    rwa [ByteArray.toList_eq, ByteArray.toList_eq] at this
theorem setCells_three (w : World) (g o : Nat) (a b c : Value) (l : List Value) : w.setCells g o (a :: b :: c :: l) = (w.setCells g o [a, b, c]).setCells g (o + 1 + 1 + 1) l := rfl
theorem decode_wrong {s : ByteArray} {c : Cmd} {q : Cm.St} (h : Cm.parse s = (c, q)) (hw : q.bad = true ∨ q.s ≠ ⟨#[]⟩ ∨ Cm.check c ≠ 0 ∨ Cm.put c ≠ s) : Cm.decode s = (Cm.zero, 10) := by
  have e : Cm.wrong s = true := by
    unfold Cm.wrong
    rw [h]
    simp only [Bool.or_eq_true, decide_eq_true_eq]
    rcases hw with hw | hw | hw | hw
    · exact .inl (.inl (.inl hw))
    · exact .inl (.inl (.inr hw))
    · exact .inl (.inr hw)
    · exact .inr hw
  unfold Cm.decode
  rw [if_pos e]
theorem decode_right {s : ByteArray} {c : Cmd} {q : Cm.St} (h : Cm.parse s = (c, q)) (h1 : q.bad = false) (h2 : q.s = ⟨#[]⟩) (h3 : Cm.check c = 0) (h4 : Cm.put c = s) : Cm.decode s = (c, 0) := by
  have e : Cm.wrong s = false := by
    unfold Cm.wrong
    rw [h]
    simp [h1, h2, h3, h4]
  unfold Cm.decode
  rw [if_neg (by rw [e]; simp), h]
theorem results_cell_tmp {P : Program} {fn : Func} {p u : Tmp} {ty : TypeId} (h : fn.results = #[.cell p ty, .tmp u]) (tmps : Array Value) (w : World) (g : Nat) (t : TypeId) (cs : Array Value) (fr : Nat × Nat) (d : TypeDesc)
    (hp : tmps.getD p undef = .pointer (some ⟨g, 0, none⟩)) (hg : w.heap[g]? = some (.cells cs t fr))
    (hu : P.underlying ty = some d) (hd : (match d with | .struct _ | .array _ _ => true | _ => false) = true) (hi : (P.info? ty).map (·.size) = some cs.size) :
    (results fn tmps).run P w = .ok (.tuple #[.agg cs, tmps.getD u undef]) w := by
  have hp' : tmps[p]?.getD undef = .pointer (some ⟨g, 0, none⟩) := by simpa using hp
  simp [results, h, hp', asAddr, run_loadVar_row w g t ty cs fr d hg hu hd hi, Result.andThen]
theorem command_len : (Try.prog.info? 31).map (·.size) = some 15 := by kernel_rfl
theorem command_one (c : Cmd) (a b : Option Addr) (l m x y : Nat) : ((c.c (.slice a l x) (.slice b m y)).all (·.oneCell')) = true := by simp [Cmd.c, Value.oneCell']

/-- Behind the reading of all parts. -/
structure DecAt (b D : Nat) (w : World) (c : Cmd) (q : Cm.St) (vn vh : Value) (wx : World) : Prop where
  at_ : PAt b q wx
  low : Below w.heap.size w wx
  res : Row wx w.heap.size #[.int .i64 0, .slice none 0 0, .slice none 0 0, .int .i64 0, .int .i64 0, .int .i64 0, .int .i64 0, .int .i64 0, .int .i64 0, .int .i64 0, .int .i64 0, .int .i64 0, .int .i64 0, .int .i64 0, .int .i64 0] 31
  own : Row wx D (c.c vn vh) 31
  rn : wx.ownsRow (w.heap.size + 2) 78 11 vn c.nodes.length (cellsOf Nd.c c.nodes)
  rh : wx.ownsRow (w.heap.size + 2) 81 6 vh c.hosts.length (cellsOf Hs.c c.hosts)

set_option maxHeartbeats 2000000 in
set_option maxRecDepth 8000 in
theorem rDecode_any (s : ByteArray) (w : World) : Calls Try.prog 15 #[.string s] w fun e w' => ∃ vn vh : Value,
    e = .returned (.tuple #[.agg ((Cm.decode s).1.c vn vh), .int .i64 (Cm.decode s).2]) ∧ CmAt (Cm.decode s).1 vn vh w' ∧ Below w.heap.size w w' := by
  have hparse : Cm.parse s = if (Cm.num ⟨s, false⟩).1 = 1 then (⟨(Cm.num ⟨s, false⟩).1, (Cm.conf (Cm.num ⟨s, false⟩).2).1.1, (Cm.conf (Cm.num ⟨s, false⟩).2).1.2.1, (Cm.conf (Cm.num ⟨s, false⟩).2).1.2.2.1, (Cm.conf (Cm.num ⟨s, false⟩).2).1.2.2.2, Cm.zG, 0⟩, (Cm.conf (Cm.num ⟨s, false⟩).2).2)
    else if (Cm.num ⟨s, false⟩).1 = 2 then (⟨(Cm.num ⟨s, false⟩).1, [], [], 0, 0, (Cm.gang (Cm.num ⟨s, false⟩).2).1, 0⟩, (Cm.gang (Cm.num ⟨s, false⟩).2).2)
    else if (Cm.num ⟨s, false⟩).1 = 3 ∨ (Cm.num ⟨s, false⟩).1 = 4 ∨ (Cm.num ⟨s, false⟩).1 = 5 then (⟨(Cm.num ⟨s, false⟩).1, [], [], 0, 0, Cm.zG, (Cm.num (Cm.num ⟨s, false⟩).2).1⟩, (Cm.num (Cm.num ⟨s, false⟩).2).2)
    else (⟨(Cm.num ⟨s, false⟩).1, [], [], 0, 0, Cm.zG, 0⟩, (Cm.num ⟨s, false⟩).2) := rfl
  have hdw := fun c q => @decode_wrong s c q
  have hdr := fun c q => @decode_right s c q
  obtain ⟨D0, hD0⟩ : ∃ d, Cm.decode s = d := ⟨_, rfl⟩
  rw [hD0] at hdw hdr ⊢
  have c0 := fun w h => rNum_any (w.heap.size - 1) ⟨s, false⟩ w h
  have cN := fun (b : Nat) w h => rNum_any b ⟨s, false⟩ w h
  obtain ⟨⟨k, q⟩, e1⟩ : ∃ r, Cm.num ⟨s, false⟩ = r := ⟨_, rfl⟩
  rw [e1] at hparse cN
  simp only at hparse cN
  obtain ⟨PP, hPP⟩ : ∃ r, Cm.parse s = r := ⟨_, rfl⟩
  rw [hPP] at hparse hdw hdr
  have HPAR := Lib.hid hparse; have HDW := Lib.hid (hdw PP.1 PP.2 rfl); have HDR := Lib.hid (hdr PP.1 PP.2 rfl); have CN := Lib.hid cN
  clear hparse hdw hdr hPP hD0 cN c0 e1
  -- the first worlds
  have g2 : Below w.heap.size w ((w.alloc (.cells #[.int .i64 0, .slice none 0 0, .slice none 0 0, .int .i64 0, .int .i64 0, .int .i64 0, .int .i64 0, .int .i64 0, .int .i64 0, .int .i64 0, .int .i64 0, .int .i64 0, .int .i64 0, .int .i64 0, .int .i64 0] 31)).alloc (.cells #[.string s, .bool false] 62)) := two_below _ _ _
  have r2 : Row ((w.alloc (.cells #[.int .i64 0, .slice none 0 0, .slice none 0 0, .int .i64 0, .int .i64 0, .int .i64 0, .int .i64 0, .int .i64 0, .int .i64 0, .int .i64 0, .int .i64 0, .int .i64 0, .int .i64 0, .int .i64 0, .int .i64 0] 31)).alloc (.cells #[.string s, .bool false] 62)) w.heap.size #[.int .i64 0, .slice none 0 0, .slice none 0 0, .int .i64 0, .int .i64 0, .int .i64 0, .int .i64 0, .int .i64 0, .int .i64 0, .int .i64 0, .int .i64 0, .int .i64 0, .int .i64 0, .int .i64 0, .int .i64 0] 31 := (Row.new w #[.int .i64 0, .slice none 0 0, .slice none 0 0, .int .i64 0, .int .i64 0, .int .i64 0, .int .i64 0, .int .i64 0, .int .i64 0, .int .i64 0, .int .i64 0, .int .i64 0, .int .i64 0, .int .i64 0, .int .i64 0] _).keep (b := w.heap.size + 1) (But.of_below ((Below.refl _ _).alloc (Nat.le_refl _) _)) (by omega)
  have p2 : PAt (w.heap.size + 1) ⟨s, false⟩ ((w.alloc (.cells #[.int .i64 0, .slice none 0 0, .slice none 0 0, .int .i64 0, .int .i64 0, .int .i64 0, .int .i64 0, .int .i64 0, .int .i64 0, .int .i64 0, .int .i64 0, .int .i64 0, .int .i64 0, .int .i64 0, .int .i64 0] 31)).alloc (.cells #[.string s, .bool false] 62)) := by
    have := Row.new (w.alloc (.cells #[.int .i64 0, .slice none 0 0, .slice none 0 0, .int .i64 0, .int .i64 0, .int .i64 0, .int .i64 0, .int .i64 0, .int .i64 0, .int .i64 0, .int .i64 0, .int .i64 0, .int .i64 0, .int .i64 0, .int .i64 0] 31)) #[.string s, .bool false] 62
    rw [World.size_alloc] at this
    exact this
  have s2 : ((w.alloc (.cells #[.int .i64 0, .slice none 0 0, .slice none 0 0, .int .i64 0, .int .i64 0, .int .i64 0, .int .i64 0, .int .i64 0, .int .i64 0, .int .i64 0, .int .i64 0, .int .i64 0, .int .i64 0, .int .i64 0, .int .i64 0] 31)).alloc (.cells #[.string s, .bool false] 62)).heap.size = w.heap.size + 2 := by rw [World.size_alloc, World.size_alloc]
  have G2 := Lib.hid g2; have R2 := Lib.hid r2; have P2 := Lib.hid p2; have S2 := Lib.hid s2
  clear g2 r2 p2 s2
  go_enter Try.func15, Try.ntmps15
  go_wp2_with fail
  refine (CN.out _ _ P2.out).mono ?_
  rintro er w1 ⟨rfl, h1, b1⟩
  have z1 : w.heap.size + 2 ≤ w1.heap.size := by have := b1.size; rw [S2.out] at this; exact this
  have g1 : Below w.heap.size w w1 := G2.out.trans (b1.below (by omega) (by rw [S2.out]; omega))
  have r1 := R2.out.keep b1 (by omega)
  have k1 : But w1.heap.size w1 (w1.alloc (.cells #[.int .i64 k, .slice none 0 0, .slice none 0 0, .int .i64 0, .int .i64 0, .int .i64 0, .int .i64 0, .int .i64 0, .int .i64 0, .int .i64 0, .int .i64 0, .int .i64 0, .int .i64 0, .int .i64 0, .int .i64 0] 31)) := (But.refl _ _).alloc _
  have D1 := Lib.hid (Row.new w1 #[.int .i64 k, .slice none 0 0, .slice none 0 0, .int .i64 0, .int .i64 0, .int .i64 0, .int .i64 0, .int .i64 0, .int .i64 0, .int .i64 0, .int .i64 0, .int .i64 0, .int .i64 0, .int .i64 0, .int .i64 0] 31)
  have H1 := Lib.hid (show PAt (w.heap.size + 1) q _ from Row.aside h1 k1 (by omega))
  have R1 := Lib.hid (r1.aside k1 (by omega))
  have G1 := Lib.hid (g1.alloc g1.size (.cells #[.int .i64 k, .slice none 0 0, .slice none 0 0, .int .i64 0, .int .i64 0, .int .i64 0, .int .i64 0, .int .i64 0, .int .i64 0, .int .i64 0, .int .i64 0, .int .i64 0, .int .i64 0, .int .i64 0, .int .i64 0] 31))
  have Z1 := Lib.hid z1
  clear h1 b1 z1 g1 r1 k1
  go_upto_block 0 with fail
  go_cut [14] from 15 to 30 (fun i wx => ∃ vn vh, DecAt (w.heap.size + 1) w1.heap.size w PP.1 PP.2 vn vh wx)
  case first =>
    by_cases k1 : k = 1
    · subst k1
      have hp := HPAR.out
      rw [if_pos rfl] at hp
      have cc := fun w h => rConfOf_any (w.heap.size + 1) q w h
      have cf := fun (b : Nat) w h => rConfOf_any b q w h
      obtain ⟨⟨⟨ns, hs, x, y⟩, q2⟩, e2⟩ : ∃ r, Cm.conf q = r := ⟨_, rfl⟩
      rw [e2] at hp cf
      simp only at hp cf
      have HPP := Lib.hid hp; have CFF := Lib.hid cf
      clear hp cf cc e2
      go_wp2_with fail
      refine (CFF.out _ _ H1.out).mono ?_
      rintro er w2 ⟨vn, vh, rfl, h2, b2, n2, m2⟩
      obtain ⟨na, nl, nc, rfl⟩ := own_form n2
      obtain ⟨ha, hl, hc, rfl⟩ := own_form m2
      have zz := Z1.out
      have sz : (w1.alloc (.cells #[.int .i64 1, .slice none 0 0, .slice none 0 0, .int .i64 0, .int .i64 0, .int .i64 0, .int .i64 0, .int .i64 0, .int .i64 0, .int .i64 0, .int .i64 0, .int .i64 0, .int .i64 0, .int .i64 0, .int .i64 0] 31)).heap.size = w1.heap.size + 1 := World.size_alloc _ _
      rw [sz] at n2 m2
      have d2 := D1.out.keep b2 (by omega)
      have r2 := R1.out.keep b2 (by omega)
      have g2 := G1.out.trans (b2.below (B := w.heap.size) (by omega) (by rw [sz]; omega))
      have t2 := d2.there 1 4 (by simp)
      have d3 : Row (w2.setCells w1.heap.size 1 [.slice na nl nc, .slice ha hl hc, .int .i64 x, .int .i64 y]) w1.heap.size #[.int .i64 1, .slice na nl nc, .slice ha hl hc, .int .i64 x, .int .i64 y, .int .i64 0, .int .i64 0, .int .i64 0, .int .i64 0, .int .i64 0, .int .i64 0, .int .i64 0, .int .i64 0, .int .i64 0, .int .i64 0] 31 := (show Row _ _ #[.int .i64 1, .slice na nl nc, .slice ha hl hc, .int .i64 x, .int .i64 0, .int .i64 0, .int .i64 0, .int .i64 0, .int .i64 0, .int .i64 0, .int .i64 0, .int .i64 0, .int .i64 0, .int .i64 0, .int .i64 0] _ from d2.set3 1 (.slice na nl nc) (.slice ha hl hc) (.int .i64 x)).set 4 (.int .i64 y)
      have k3 : But w1.heap.size w2 (w2.setCells w1.heap.size 1 [.slice na nl nc, .slice ha hl hc, .int .i64 x, .int .i64 y]) := ((But.refl w1.heap.size w2).set3 (g := w1.heap.size) (.inr rfl) 1 (.slice na nl nc) (.slice ha hl hc) (.int .i64 x)).setCell (p := ⟨w1.heap.size, 4, none⟩) (.inr rfl) (.int .i64 y)
      have g3 : Below w.heap.size w (w2.setCells w1.heap.size 1 [.slice na nl nc, .slice ha hl hc, .int .i64 x, .int .i64 y]) := g2.trans (k3.below (B := w.heap.size) (by omega) (by have := g2.size; omega))
      have FIN := Lib.hid (show DecAt (w.heap.size + 1) w1.heap.size w PP.1 PP.2 (.slice na nl nc) (.slice ha hl hc) (w2.setCells w1.heap.size 1 [.slice na nl nc, .slice ha hl hc, .int .i64 x, .int .i64 y]) by
        rw [HPP.out]
        exact ⟨Row.aside h2 k3 (by omega), g3, r2.aside k3 (by omega), d3, own_base (own_keep n2 k3 (own_low n2 (by omega))) (by omega), own_base (own_keep m2 k3 (own_low m2 (by omega))) (by omega)⟩)
      have T2 := Lib.hid t2
      clear h2 b2 n2 m2 zz sz d2 r2 g2 t2 d3 k3 g3
      go_wp2_with (first | (refine wpList_store_mid rfl 25 _ _ rfl w1.heap.size 1 #[.slice na nl nc, .slice ha hl hc, .int .i64 x, .int .i64 y] rfl rfl T2.out config_len (Cf.one _ _ _ _ _ _ _ _) ?_) | fail)
      go_meet
      exact ⟨_, _, FIN.out⟩
    by_cases k2 : k = 2
    · subst k2
      have hp := HPAR.out
      rw [if_neg (by decide), if_pos rfl] at hp
      have cf := fun (b : Nat) w h => rGangOf_any b q w h
      obtain ⟨⟨⟨a1, a2, a3, ⟨x, y, z⟩, a4, a5, a6⟩, q2⟩, e2⟩ : ∃ r, Cm.gang q = r := ⟨_, rfl⟩
      rw [e2] at hp cf
      simp only [Gg.c] at hp cf
      have HPP := Lib.hid hp; have CFF := Lib.hid cf
      clear hp cf e2 k1
      go_wp2_with fail
      refine (CFF.out _ _ H1.out).mono ?_
      rintro er w2 ⟨rfl, h2, b2⟩
      have zz := Z1.out
      have sz : (w1.alloc (.cells #[.int .i64 2, .slice none 0 0, .slice none 0 0, .int .i64 0, .int .i64 0, .int .i64 0, .int .i64 0, .int .i64 0, .int .i64 0, .int .i64 0, .int .i64 0, .int .i64 0, .int .i64 0, .int .i64 0, .int .i64 0] 31)).heap.size = w1.heap.size + 1 := World.size_alloc _ _
      have d2 := D1.out.keep b2 (by omega)
      have r2 := R1.out.keep b2 (by omega)
      have g2 := G1.out.trans (b2.below (B := w.heap.size) (by omega) (by rw [sz]; omega))
      have t2 := d2.there 5 9 (by simp)
      have d3 : Row _ w1.heap.size #[.int .i64 2, .slice none 0 0, .slice none 0 0, .int .i64 0, .int .i64 0, .int .i64 a1, .int .i64 a2, .int .i64 a3, .int .i64 0, .int .i64 0, .int .i64 0, .int .i64 0, .int .i64 0, .int .i64 0, .int .i64 0] 31 := d2.set3 5 (.int .i64 a1) (.int .i64 a2) (.int .i64 a3)
      have d4 : Row _ w1.heap.size #[.int .i64 2, .slice none 0 0, .slice none 0 0, .int .i64 0, .int .i64 0, .int .i64 a1, .int .i64 a2, .int .i64 a3, .int .i64 x, .int .i64 y, .int .i64 z, .int .i64 0, .int .i64 0, .int .i64 0, .int .i64 0] 31 := d3.set3 8 (.int .i64 x) (.int .i64 y) (.int .i64 z)
      have d5 : Row _ w1.heap.size #[.int .i64 2, .slice none 0 0, .slice none 0 0, .int .i64 0, .int .i64 0, .int .i64 a1, .int .i64 a2, .int .i64 a3, .int .i64 x, .int .i64 y, .int .i64 z, .int .i64 a4, .int .i64 a5, .int .i64 a6, .int .i64 0] 31 := d4.set3 11 (.int .i64 a4) (.int .i64 a5) (.int .i64 a6)
      have k3 := (((But.refl w1.heap.size w2).set3 (g := w1.heap.size) (.inr rfl) 5 (.int .i64 a1) (.int .i64 a2) (.int .i64 a3)).set3 (g := w1.heap.size) (.inr rfl) 8 (.int .i64 x) (.int .i64 y) (.int .i64 z)).set3 (g := w1.heap.size) (.inr rfl) 11 (.int .i64 a4) (.int .i64 a5) (.int .i64 a6)
      have hsp : w2.setCells w1.heap.size 5 [.int .i64 a1, .int .i64 a2, .int .i64 a3, .int .i64 x, .int .i64 y, .int .i64 z, .int .i64 a4, .int .i64 a5, .int .i64 a6] = ((w2.setCells w1.heap.size 5 [.int .i64 a1, .int .i64 a2, .int .i64 a3]).setCells w1.heap.size 8 [.int .i64 x, .int .i64 y, .int .i64 z]).setCells w1.heap.size 11 [.int .i64 a4, .int .i64 a5, .int .i64 a6] := (setCells_three _ _ 5 _ _ _ _).trans (setCells_three _ _ 8 _ _ _ _)
      obtain ⟨W3, hW3⟩ : ∃ V, w2.setCells w1.heap.size 5 [.int .i64 a1, .int .i64 a2, .int .i64 a3, .int .i64 x, .int .i64 y, .int .i64 z, .int .i64 a4, .int .i64 a5, .int .i64 a6] = V := ⟨_, rfl⟩
      rw [← hsp, hW3] at d5 k3
      clear hsp
      have g3 : Below w.heap.size w W3 := g2.trans (k3.below (B := w.heap.size) (by omega) (by have := g2.size; omega))
      have FIN := Lib.hid (show DecAt (w.heap.size + 1) w1.heap.size w PP.1 PP.2 (.slice none 0 0) (.slice none 0 0) W3 by
        rw [HPP.out]
        exact ⟨Row.aside h2 k3 (by omega), g3, r2.aside k3 (by omega), d5, World.ownsRow_nil _ _ _ _, World.ownsRow_nil _ _ _ _⟩)
      have T2 := Lib.hid t2; have HW3 := Lib.hid hW3
      clear h2 b2 zz sz d2 r2 g2 t2 d3 d4 d5 k3 g3 hW3
      go_wp2_with (first | (refine wpList_store_mid rfl 29 _ _ rfl w1.heap.size 5 #[.int .i64 a1, .int .i64 a2, .int .i64 a3, .int .i64 x, .int .i64 y, .int .i64 z, .int .i64 a4, .int .i64 a5, .int .i64 a6] rfl rfl T2.out gang_len (Gg.one _ _ _ _ _ _ _ _ _) ?_; rw [show (#[.int .i64 a1, .int .i64 a2, .int .i64 a3, .int .i64 x, .int .i64 y, .int .i64 z, .int .i64 a4, .int .i64 a5, .int .i64 a6] : Array Value).toList = [.int .i64 a1, .int .i64 a2, .int .i64 a3, .int .i64 x, .int .i64 y, .int .i64 z, .int .i64 a4, .int .i64 a5, .int .i64 a6] from rfl, HW3.out]) | fail)
      go_meet
      exact ⟨_, _, FIN.out⟩
    by_cases k3 : k = 3 ∨ k = 4 ∨ k = 5
    · have hp := HPAR.out
      rw [if_neg k1, if_neg k2, if_pos k3] at hp
      have cf := fun (b : Nat) w h => rNum_any b q w h
      obtain ⟨⟨x, q2⟩, e2⟩ : ∃ r, Cm.num q = r := ⟨_, rfl⟩
      rw [e2] at hp cf
      simp only at hp cf
      have HPP := Lib.hid hp; have CFF := Lib.hid cf
      clear hp cf e2 k1 k2
      rcases k3 with h | h | h
      · subst h
        go_wp2_with fail
        refine (CFF.out _ _ H1.out).mono ?_
        rintro er w2 ⟨rfl, h2, b2⟩
        have zz := Z1.out
        have sz : (w1.alloc (.cells #[.int .i64 3, .slice none 0 0, .slice none 0 0, .int .i64 0, .int .i64 0, .int .i64 0, .int .i64 0, .int .i64 0, .int .i64 0, .int .i64 0, .int .i64 0, .int .i64 0, .int .i64 0, .int .i64 0, .int .i64 0] 31)).heap.size = w1.heap.size + 1 := World.size_alloc _ _
        have d2 := D1.out.keep b2 (by omega)
        have r2 := R1.out.keep b2 (by omega)
        have g2 := G1.out.trans (b2.below (B := w.heap.size) (by omega) (by rw [sz]; omega))
        have c14 : w2.cell? ⟨w1.heap.size, 14, none⟩ = some (.int .i64 0) := d2.at_ 14
        have f14 := d2.soft 14
        have d3 : Row _ w1.heap.size #[.int .i64 3, .slice none 0 0, .slice none 0 0, .int .i64 0, .int .i64 0, .int .i64 0, .int .i64 0, .int .i64 0, .int .i64 0, .int .i64 0, .int .i64 0, .int .i64 0, .int .i64 0, .int .i64 0, .int .i64 x] 31 := d2.set 14 (.int .i64 x)
        have k3 := (But.refl w1.heap.size w2).setCell (p := ⟨w1.heap.size, 14, none⟩) (.inr rfl) (.int .i64 x)
        have g3 := g2.trans (k3.below (B := w.heap.size) (by omega) (by have := g2.size; omega))
        have FIN := Lib.hid (show DecAt (w.heap.size + 1) w1.heap.size w PP.1 PP.2 (.slice none 0 0) (.slice none 0 0) (w2.setCell ⟨w1.heap.size, 14, none⟩ (.int .i64 x)) by
          rw [HPP.out]
          exact ⟨Row.aside h2 k3 (by omega), g3, r2.aside k3 (by omega), d3, World.ownsRow_nil _ _ _ _, World.ownsRow_nil _ _ _ _⟩)
        clear h2 b2 zz sz d2 r2 g2 d3 k3 g3
        go_wp2_with fail
        go_meet
        exact ⟨_, _, FIN.out⟩
      · subst h
        go_wp2_with fail
        refine (CFF.out _ _ H1.out).mono ?_
        rintro er w2 ⟨rfl, h2, b2⟩
        have zz := Z1.out
        have sz : (w1.alloc (.cells #[.int .i64 4, .slice none 0 0, .slice none 0 0, .int .i64 0, .int .i64 0, .int .i64 0, .int .i64 0, .int .i64 0, .int .i64 0, .int .i64 0, .int .i64 0, .int .i64 0, .int .i64 0, .int .i64 0, .int .i64 0] 31)).heap.size = w1.heap.size + 1 := World.size_alloc _ _
        have d2 := D1.out.keep b2 (by omega)
        have r2 := R1.out.keep b2 (by omega)
        have g2 := G1.out.trans (b2.below (B := w.heap.size) (by omega) (by rw [sz]; omega))
        have c14 : w2.cell? ⟨w1.heap.size, 14, none⟩ = some (.int .i64 0) := d2.at_ 14
        have f14 := d2.soft 14
        have d3 : Row _ w1.heap.size #[.int .i64 4, .slice none 0 0, .slice none 0 0, .int .i64 0, .int .i64 0, .int .i64 0, .int .i64 0, .int .i64 0, .int .i64 0, .int .i64 0, .int .i64 0, .int .i64 0, .int .i64 0, .int .i64 0, .int .i64 x] 31 := d2.set 14 (.int .i64 x)
        have k3 := (But.refl w1.heap.size w2).setCell (p := ⟨w1.heap.size, 14, none⟩) (.inr rfl) (.int .i64 x)
        have g3 := g2.trans (k3.below (B := w.heap.size) (by omega) (by have := g2.size; omega))
        have FIN := Lib.hid (show DecAt (w.heap.size + 1) w1.heap.size w PP.1 PP.2 (.slice none 0 0) (.slice none 0 0) (w2.setCell ⟨w1.heap.size, 14, none⟩ (.int .i64 x)) by
          rw [HPP.out]
          exact ⟨Row.aside h2 k3 (by omega), g3, r2.aside k3 (by omega), d3, World.ownsRow_nil _ _ _ _, World.ownsRow_nil _ _ _ _⟩)
        clear h2 b2 zz sz d2 r2 g2 d3 k3 g3
        go_wp2_with fail
        go_meet
        exact ⟨_, _, FIN.out⟩
      · subst h
        go_wp2_with fail
        refine (CFF.out _ _ H1.out).mono ?_
        rintro er w2 ⟨rfl, h2, b2⟩
        have zz := Z1.out
        have sz : (w1.alloc (.cells #[.int .i64 5, .slice none 0 0, .slice none 0 0, .int .i64 0, .int .i64 0, .int .i64 0, .int .i64 0, .int .i64 0, .int .i64 0, .int .i64 0, .int .i64 0, .int .i64 0, .int .i64 0, .int .i64 0, .int .i64 0] 31)).heap.size = w1.heap.size + 1 := World.size_alloc _ _
        have d2 := D1.out.keep b2 (by omega)
        have r2 := R1.out.keep b2 (by omega)
        have g2 := G1.out.trans (b2.below (B := w.heap.size) (by omega) (by rw [sz]; omega))
        have c14 : w2.cell? ⟨w1.heap.size, 14, none⟩ = some (.int .i64 0) := d2.at_ 14
        have f14 := d2.soft 14
        have d3 : Row _ w1.heap.size #[.int .i64 5, .slice none 0 0, .slice none 0 0, .int .i64 0, .int .i64 0, .int .i64 0, .int .i64 0, .int .i64 0, .int .i64 0, .int .i64 0, .int .i64 0, .int .i64 0, .int .i64 0, .int .i64 0, .int .i64 x] 31 := d2.set 14 (.int .i64 x)
        have k3 := (But.refl w1.heap.size w2).setCell (p := ⟨w1.heap.size, 14, none⟩) (.inr rfl) (.int .i64 x)
        have g3 := g2.trans (k3.below (B := w.heap.size) (by omega) (by have := g2.size; omega))
        have FIN := Lib.hid (show DecAt (w.heap.size + 1) w1.heap.size w PP.1 PP.2 (.slice none 0 0) (.slice none 0 0) (w2.setCell ⟨w1.heap.size, 14, none⟩ (.int .i64 x)) by
          rw [HPP.out]
          exact ⟨Row.aside h2 k3 (by omega), g3, r2.aside k3 (by omega), d3, World.ownsRow_nil _ _ _ _, World.ownsRow_nil _ _ _ _⟩)
        clear h2 b2 zz sz d2 r2 g2 d3 k3 g3
        go_wp2_with fail
        go_meet
        exact ⟨_, _, FIN.out⟩
    · have hp := HPAR.out
      rw [if_neg k1, if_neg k2, if_neg k3] at hp
      have q1 : (k == 1) = false := by simpa using k1
      have q2 : (k == 2) = false := by simpa using k2
      have q3 : (k == 3) = false := by have : ¬ k = 3 := by omega
                                       simpa using this
      have q4 : (k == 4) = false := by have : ¬ k = 4 := by omega
                                       simpa using this
      have q5 : (k == 5) = false := by have : ¬ k = 5 := by omega
                                       simpa using this
      have FIN := Lib.hid (show DecAt (w.heap.size + 1) w1.heap.size w PP.1 PP.2 (.slice none 0 0) (.slice none 0 0) (w1.alloc (.cells #[.int .i64 k, .slice none 0 0, .slice none 0 0, .int .i64 0, .int .i64 0, .int .i64 0, .int .i64 0, .int .i64 0, .int .i64 0, .int .i64 0, .int .i64 0, .int .i64 0, .int .i64 0, .int .i64 0, .int .i64 0] 31)) by
        rw [hp]
        exact ⟨H1.out, G1.out, R1.out, D1.out, World.ownsRow_nil _ _ _ _, World.ownsRow_nil _ _ _ _⟩)
      clear hp k3
      go_wp2_with fail
      go_meet
      exact ⟨_, _, FIN.out⟩
  case rest =>
    obtain ⟨vn, vh, hall⟩ := hcut
    obtain ⟨na, nl, nc, rfl⟩ := own_form hall.rn
    obtain ⟨ha, hl, hc, rfl⟩ := own_form hall.rh
    obtain ⟨⟨kind, nodes, hosts, half, age, ⟨id, ten, pods, ⟨x, y, z⟩, run, lev, pre⟩, n⟩, ⟨s', bad⟩⟩ := PP
    simp only at hall
    have hcm : CmAt (⟨kind, nodes, hosts, half, age, ⟨id, ten, pods, ⟨x, y, z⟩, run, lev, pre⟩, n⟩ : Cmd) (.slice na nl nc) (.slice ha hl hc) wc := CmAt.of_rows hall.rn hall.rh
    have hck := rCheckAt hcm
    have hpt := fun w2 (g : Below wc.heap.size wc w2) (h0 : Cm.check (⟨kind, nodes, hosts, half, age, ⟨id, ten, pods, ⟨x, y, z⟩, run, lev, pre⟩, n⟩ : Cmd) = 0) => rPutAt (hcm.kept g) h0
    have hb0 : wc.cell? ⟨w.heap.size + 1, 0, none⟩ = some (.string s') := hall.at_.at_ 0
    have hb1 : wc.cell? ⟨w.heap.size + 1, 1, none⟩ = some (.bool bad) := hall.at_.at_ 1
    have how : Row wc w1.heap.size #[.int .i64 kind, .slice na nl nc, .slice ha hl hc, .int .i64 half, .int .i64 age, .int .i64 id, .int .i64 ten, .int .i64 pods, .int .i64 x, .int .i64 y, .int .i64 z, .int .i64 run, .int .i64 lev, .int .i64 pre, .int .i64 n] 31 := hall.own
    have hdw := HDW.out
    have hdr := HDR.out
    simp only at hdw hdr
    simp only [Cmd.c] at hck hpt
    obtain ⟨ck, hckv⟩ : ∃ v, Cm.check (⟨kind, nodes, hosts, half, age, ⟨id, ten, pods, ⟨x, y, z⟩, run, lev, pre⟩, n⟩ : Cmd) = v := ⟨_, rfl⟩
    obtain ⟨pt, hptv⟩ : ∃ v, Cm.put (⟨kind, nodes, hosts, half, age, ⟨id, ten, pods, ⟨x, y, z⟩, run, lev, pre⟩, n⟩ : Cmd) = v := ⟨_, rfl⟩
    rw [hckv] at hck hpt
    simp only [hptv] at hpt
    have HDW := Lib.hid (show (bad = true ∨ s' ≠ ⟨#[]⟩ ∨ ck ≠ 0 ∨ pt ≠ s) → D0 = (Cm.zero, 10) from fun h => hdw (by rw [hckv, hptv]; exact h))
    have HDR := Lib.hid (show bad = false → s' = ⟨#[]⟩ → ck = 0 → pt = s → D0 = ((⟨kind, nodes, hosts, half, age, ⟨id, ten, pods, ⟨x, y, z⟩, run, lev, pre⟩, n⟩ : Cmd), 0) from fun h1 h2 h3 h4 => hdr h1 h2 (hckv.trans h3) (hptv.trans h4))
    have HCK := Lib.hid hck; have HPT := Lib.hid hpt; have HOW := Lib.hid how
    have RES := Lib.hid hall.res; have LOW := Lib.hid hall.low; have RN := Lib.hid hall.rn; have RH := Lib.hid hall.rh
    have ZD := Lib.hid (show w.heap.size + 2 ≤ w1.heap.size from Z1.out)
    clear hall hcm hck hpt how hdw hdr hckv hptv HPAR
    cases bad
    · by_cases hs : s' = ⟨#[]⟩
      · subst hs
        have c0 : wc.cell? ⟨w1.heap.size, 0, none⟩ = some (.int .i64 kind) := HOW.out.at_ 0
        have c1 : wc.cell? ⟨w1.heap.size, 1, none⟩ = some (.slice na nl nc) := HOW.out.at_ 1
        have c2 : wc.cell? ⟨w1.heap.size, 2, none⟩ = some (.slice ha hl hc) := HOW.out.at_ 2
        have c3 : wc.cell? ⟨w1.heap.size, 3, none⟩ = some (.int .i64 half) := HOW.out.at_ 3
        have c4 : wc.cell? ⟨w1.heap.size, 4, none⟩ = some (.int .i64 age) := HOW.out.at_ 4
        have c5 : wc.cell? ⟨w1.heap.size, 5, none⟩ = some (.int .i64 id) := HOW.out.at_ 5
        have c6 : wc.cell? ⟨w1.heap.size, 6, none⟩ = some (.int .i64 ten) := HOW.out.at_ 6
        have c7 : wc.cell? ⟨w1.heap.size, 7, none⟩ = some (.int .i64 pods) := HOW.out.at_ 7
        have c8 : wc.cell? ⟨w1.heap.size, 8, none⟩ = some (.int .i64 x) := HOW.out.at_ 8
        have c9 : wc.cell? ⟨w1.heap.size, 9, none⟩ = some (.int .i64 y) := HOW.out.at_ 9
        have c10 : wc.cell? ⟨w1.heap.size, 10, none⟩ = some (.int .i64 z) := HOW.out.at_ 10
        have c11 : wc.cell? ⟨w1.heap.size, 11, none⟩ = some (.int .i64 run) := HOW.out.at_ 11
        have c12 : wc.cell? ⟨w1.heap.size, 12, none⟩ = some (.int .i64 lev) := HOW.out.at_ 12
        have c13 : wc.cell? ⟨w1.heap.size, 13, none⟩ = some (.int .i64 pre) := HOW.out.at_ 13
        have c14 : wc.cell? ⟨w1.heap.size, 14, none⟩ = some (.int .i64 n) := HOW.out.at_ 14
        go_wp2_with fail
        refine HCK.out.mono ?_
        rintro er w2 ⟨rfl, b2⟩
        have hn2 : Row w2 w1.heap.size #[.int .i64 kind, .slice na nl nc, .slice ha hl hc, .int .i64 half, .int .i64 age, .int .i64 id, .int .i64 ten, .int .i64 pods, .int .i64 x, .int .i64 y, .int .i64 z, .int .i64 run, .int .i64 lev, .int .i64 pre, .int .i64 n] 31 := HOW.out.under b2
        have B2 := Lib.hid b2; have LOW2 := Lib.hid (LOW.out.trans (b2.mono LOW.out.size)); have RES2 := Lib.hid (RES.out.under b2)
        clear b2 c0 c1 c2 c3 c4 c5 c6 c7 c8 c9 c10 c11 c12 c13 c14 hb0 hb1
        by_cases h0 : ck = 0
        · subst h0
          have c0 : w2.cell? ⟨w1.heap.size, 0, none⟩ = some (.int .i64 kind) := hn2.at_ 0
          have c1 : w2.cell? ⟨w1.heap.size, 1, none⟩ = some (.slice na nl nc) := hn2.at_ 1
          have c2 : w2.cell? ⟨w1.heap.size, 2, none⟩ = some (.slice ha hl hc) := hn2.at_ 2
          have c3 : w2.cell? ⟨w1.heap.size, 3, none⟩ = some (.int .i64 half) := hn2.at_ 3
          have c4 : w2.cell? ⟨w1.heap.size, 4, none⟩ = some (.int .i64 age) := hn2.at_ 4
          have c5 : w2.cell? ⟨w1.heap.size, 5, none⟩ = some (.int .i64 id) := hn2.at_ 5
          have c6 : w2.cell? ⟨w1.heap.size, 6, none⟩ = some (.int .i64 ten) := hn2.at_ 6
          have c7 : w2.cell? ⟨w1.heap.size, 7, none⟩ = some (.int .i64 pods) := hn2.at_ 7
          have c8 : w2.cell? ⟨w1.heap.size, 8, none⟩ = some (.int .i64 x) := hn2.at_ 8
          have c9 : w2.cell? ⟨w1.heap.size, 9, none⟩ = some (.int .i64 y) := hn2.at_ 9
          have c10 : w2.cell? ⟨w1.heap.size, 10, none⟩ = some (.int .i64 z) := hn2.at_ 10
          have c11 : w2.cell? ⟨w1.heap.size, 11, none⟩ = some (.int .i64 run) := hn2.at_ 11
          have c12 : w2.cell? ⟨w1.heap.size, 12, none⟩ = some (.int .i64 lev) := hn2.at_ 12
          have c13 : w2.cell? ⟨w1.heap.size, 13, none⟩ = some (.int .i64 pre) := hn2.at_ 13
          have c14 : w2.cell? ⟨w1.heap.size, 14, none⟩ = some (.int .i64 n) := hn2.at_ 14
          go_wp2_with fail
          refine (HPT.out w2 B2.out (by trivial)).mono ?_
          rintro er w3 ⟨rfl, b3⟩
          have OW3 := Lib.hid (hn2.under b3); have LOW3 := Lib.hid (LOW2.out.trans (b3.mono LOW2.out.size)); have RES3 := Lib.hid (RES2.out.under b3)
          have bb := B2.out.trans (b3.mono B2.out.size)
          have RN3 := Lib.hid (own_keep RN.out (But.of_below (b := w.heap.size) bb) (own_low RN.out (by omega))); have RH3 := Lib.hid (own_keep RH.out (But.of_below (b := w.heap.size) bb) (own_low RH.out (by omega)))
          clear b3 bb hn2 c0 c1 c2 c3 c4 c5 c6 c7 c8 c9 c10 c11 c12 c13 c14
          by_cases hp : pt = s
          · have hd : D0 = ((⟨kind, nodes, hosts, half, age, ⟨id, ten, pods, ⟨x, y, z⟩, run, lev, pre⟩, n⟩ : Cmd), 0) := HDR.out (by trivial) (by trivial) (by trivial) hp
            subst hd
            subst hp
            go_wp2_with (first
              | (refine wpList_load_row rfl 31 _ rfl w1.heap.size rfl _ _ _ _ OW3.out Try.underlying31 rfl command_len ?_)
              | (refine wpList_store_row rfl 31 _ _ rfl w.heap.size #[.int .i64 kind, .slice na nl nc, .slice ha hl hc, .int .i64 half, .int .i64 age, .int .i64 id, .int .i64 ten, .int .i64 pods, .int .i64 x, .int .i64 y, .int .i64 z, .int .i64 run, .int .i64 lev, .int .i64 pre, .int .i64 n] rfl rfl _ _ RES3.out command_len rfl (command_one (⟨kind, nodes, hosts, half, age, ⟨id, ten, pods, ⟨x, y, z⟩, run, lev, pre⟩, n⟩ : Cmd) _ _ _ _ _ _) ?_)
              | fail)
            refine bodyPost_ret (results_cell_tmp (p := 2) (u := 3) (by kernel_rfl) _ _ w.heap.size _ _ _ _ rfl (RES3.out.setRow #[.int .i64 kind, .slice na nl nc, .slice ha hl hc, .int .i64 half, .int .i64 age, .int .i64 id, .int .i64 ten, .int .i64 pods, .int .i64 x, .int .i64 y, .int .i64 z, .int .i64 run, .int .i64 lev, .int .i64 pre, .int .i64 n]) Try.underlying31 rfl command_len) rfl ?_
            have k : But w.heap.size w3 (w3.setRow w.heap.size #[.int .i64 kind, .slice na nl nc, .slice ha hl hc, .int .i64 half, .int .i64 age, .int .i64 id, .int .i64 ten, .int .i64 pods, .int .i64 x, .int .i64 y, .int .i64 z, .int .i64 run, .int .i64 lev, .int .i64 pre, .int .i64 n]) := (But.refl _ _).setRow (.inr rfl) _
            exact ⟨.slice na nl nc, .slice ha hl hc, rfl, CmAt.of_rows (own_keep RN3.out k (own_low RN3.out (by omega))) (own_keep RH3.out k (own_low RH3.out (by omega))), below_row LOW3.out (Nat.le_refl _) _⟩
          · have hp' := ba_ne hp
            have hd : D0 = (Cm.zero, 10) := HDW.out (.inr (.inr (.inr hp)))
            subst hd
            go_wp2_with (first | (refine wpList_store_row rfl 31 _ _ rfl w.heap.size #[.int .i64 0, .slice none 0 0, .slice none 0 0, .int .i64 0, .int .i64 0, .int .i64 0, .int .i64 0, .int .i64 0, .int .i64 0, .int .i64 0, .int .i64 0, .int .i64 0, .int .i64 0, .int .i64 0, .int .i64 0] rfl rfl _ _ RES3.out command_len rfl (command_one Cm.zero none none 0 0 0 0) ?_) | fail)
            refine bodyPost_ret (results_cell_tmp (p := 2) (u := 3) (by kernel_rfl) _ _ w.heap.size _ _ _ _ rfl (RES3.out.setRow #[.int .i64 0, .slice none 0 0, .slice none 0 0, .int .i64 0, .int .i64 0, .int .i64 0, .int .i64 0, .int .i64 0, .int .i64 0, .int .i64 0, .int .i64 0, .int .i64 0, .int .i64 0, .int .i64 0, .int .i64 0]) Try.underlying31 rfl command_len) rfl ?_
            exact ⟨.slice none 0 0, .slice none 0 0, rfl, CmAt.none _ _ rfl rfl, below_row LOW3.out (Nat.le_refl _) _⟩
        · have h0' : (ck == 0) = false := by simpa using h0
          have hd : D0 = (Cm.zero, 10) := HDW.out (.inr (.inr (.inl h0)))
          subst hd
          go_wp2_with (first | (refine wpList_store_row rfl 31 _ _ rfl w.heap.size #[.int .i64 0, .slice none 0 0, .slice none 0 0, .int .i64 0, .int .i64 0, .int .i64 0, .int .i64 0, .int .i64 0, .int .i64 0, .int .i64 0, .int .i64 0, .int .i64 0, .int .i64 0, .int .i64 0, .int .i64 0] rfl rfl _ _ RES2.out command_len rfl (command_one Cm.zero none none 0 0 0 0) ?_) | fail)
          refine bodyPost_ret (results_cell_tmp (p := 2) (u := 3) (by kernel_rfl) _ _ w.heap.size _ _ _ _ rfl (RES2.out.setRow #[.int .i64 0, .slice none 0 0, .slice none 0 0, .int .i64 0, .int .i64 0, .int .i64 0, .int .i64 0, .int .i64 0, .int .i64 0, .int .i64 0, .int .i64 0, .int .i64 0, .int .i64 0, .int .i64 0, .int .i64 0]) Try.underlying31 rfl command_len) rfl ?_
          exact ⟨.slice none 0 0, .slice none 0 0, rfl, CmAt.none _ _ rfl rfl, below_row LOW2.out (Nat.le_refl _) _⟩
      · have hs' := ba_ne hs
        rw [show (⟨#[]⟩ : ByteArray).toList = [] by rw [ByteArray.toList_eq]] at hs'
        have hd : D0 = (Cm.zero, 10) := HDW.out (.inr (.inl hs))
        subst hd
        go_wp2_with (first | (refine wpList_store_row rfl 31 _ _ rfl w.heap.size #[.int .i64 0, .slice none 0 0, .slice none 0 0, .int .i64 0, .int .i64 0, .int .i64 0, .int .i64 0, .int .i64 0, .int .i64 0, .int .i64 0, .int .i64 0, .int .i64 0, .int .i64 0, .int .i64 0, .int .i64 0] rfl rfl _ _ RES.out command_len rfl (command_one Cm.zero none none 0 0 0 0) ?_) | fail)
        refine bodyPost_ret (results_cell_tmp (p := 2) (u := 3) (by kernel_rfl) _ _ w.heap.size _ _ _ _ rfl (RES.out.setRow #[.int .i64 0, .slice none 0 0, .slice none 0 0, .int .i64 0, .int .i64 0, .int .i64 0, .int .i64 0, .int .i64 0, .int .i64 0, .int .i64 0, .int .i64 0, .int .i64 0, .int .i64 0, .int .i64 0, .int .i64 0]) Try.underlying31 rfl command_len) rfl ?_
        exact ⟨.slice none 0 0, .slice none 0 0, rfl, CmAt.none _ _ rfl rfl, below_row LOW.out (Nat.le_refl _) _⟩
    · have hd : D0 = (Cm.zero, 10) := HDW.out (.inl rfl)
      subst hd
      go_wp2_with (first | (refine wpList_store_row rfl 31 _ _ rfl w.heap.size #[.int .i64 0, .slice none 0 0, .slice none 0 0, .int .i64 0, .int .i64 0, .int .i64 0, .int .i64 0, .int .i64 0, .int .i64 0, .int .i64 0, .int .i64 0, .int .i64 0, .int .i64 0, .int .i64 0, .int .i64 0] rfl rfl _ _ RES.out command_len rfl (command_one Cm.zero none none 0 0 0 0) ?_) | fail)
      refine bodyPost_ret (results_cell_tmp (p := 2) (u := 3) (by kernel_rfl) _ _ w.heap.size _ _ _ _ rfl (RES.out.setRow #[.int .i64 0, .slice none 0 0, .slice none 0 0, .int .i64 0, .int .i64 0, .int .i64 0, .int .i64 0, .int .i64 0, .int .i64 0, .int .i64 0, .int .i64 0, .int .i64 0, .int .i64 0, .int .i64 0, .int .i64 0]) Try.underlying31 rfl command_len) rfl ?_
      exact ⟨.slice none 0 0, .slice none 0 0, rfl, CmAt.none _ _ rfl rfl, below_row LOW.out (Nat.le_refl _) _⟩

end Go.Proofs.Ytpnfhcpapjomnaa
