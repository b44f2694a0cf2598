/- Quotas: the statement's walk: safe. -/
import Derived.Test.YtkakgjmajplgmaaQtI
import Derived.Test.YtkakgjmajplgmaaQtG
namespace Go.Proofs.Ytkakgjmajplgmaa
open Go.RowKit
set_option linter.unusedVariables false

set_option maxHeartbeats 2000000 in
set_option maxRecDepth 8000 in
theorem QuotaSafe_walk (C : QuC) {c : Cmd} {vn vh : Value} {used : List V3} {ao : Option Addr} {cap bb oo : Nat} {w : World} (h : CmAt c vn vh w) (hw : c.wide) (hU : Sl V3.c 26 3 w ao cap bb oo used) (hu : ∀ v ∈ used, v.wide) {n0 n1 n2 n3 : Int} (i0 : In64 n0) (i1 : In64 n1) (i2 : In64 n2) (i3 : In64 n3) :
    Calls Try.prog 3 #[.agg (c.f vn vh), .slice ao used.length cap, .agg #[.int .i64 n0, .int .i64 n1, .int .i64 n2, .int .i64 n3]] w (RetBelow (.bool true) w) := by
  have cA := Lib.hid (qAwake_any C)
  have cm := fun w2 (g : Below w.heap.size w w2) => qMay_any c vn vh used ao cap w2 (h.kept g) hU.small
  have cv := fun w2 => rValid3 ⟨n1, n2, n3⟩ w2
  have nw : V3.wide ⟨n1, n2, n3⟩ := ⟨i1, i2, i3⟩
  have c1 := fun (e : Cf.check c = 0) (e2 : used.length ≤ 100) w2 (g : Below w.heap.size w w2) => C.may c vn vh used ao cap bb oo n0 ⟨n1, n2, n3⟩ w2 hw e (h.kept g) (hU.kept g) hu e2 i0 nw
  have hat := fun w2 (g : Below w.heap.size w w2) i => rAt3 used ao cap bb oo i w2 (hU.kept g)
  have hsafe := fun (e : Cf.check c = 0) (e2 : Cf.valid ⟨n1, n2, n3⟩ = true) (e3 : Qt.may c.nodes used n0 ⟨n1, n2, n3⟩ = true) (e4 : ∀ v ∈ used, Cf.valid v = true) => Qt.may_safe e e4 e2 e3
  have hleaf : Qt.may c.nodes used n0 ⟨n1, n2, n3⟩ = true → 0 ≤ n0 ∧ n0 < c.nodes.length := fun e => by
    unfold Qt.may at e
    simp only [Bool.and_eq_true] at e
    exact Qt.leaf_in e.1.1
  have hnow : Qt.may c.nodes used n0 ⟨n1, n2, n3⟩ = true → Qt.ath (Qt.now c.nodes used n0 ⟨n1, n2, n3⟩) n0 = Qt.add (Qt.ath used n0) ⟨n1, n2, n3⟩ := fun e => by rw [Qt.ath_now (hleaf e) (hleaf e), if_pos rfl]
  have hfl := fun n => Qt.fill_len used n
  have hset := Qt.fill_now c.nodes used n0 ⟨n1, n2, n3⟩
  have hfat := fun n (e : 0 ≤ n0 ∧ n0 < (n : Nat)) => Qt.fill_at used n e
  have hfew := fun (e : Cf.check c = 0) => Qt.check_few e
  obtain ⟨an, cn, nb, no, ah, ch, hb, hbo, rfl, rfl, s1, s2⟩ := h
  have hnl := s1.idx
  have hnd := fun w2 (g : Below w.heap.size w w2) (e : 0 ≤ n0 ∧ n0 < c.nodes.length) => nom_range ((s1.kept g).at_ n0.toNat _ (Qt.node_in e))
  have hne := fun w2 (g : Below w.heap.size w w2) (e : 0 ≤ n0 ∧ n0 < c.nodes.length) => bor_range ((s1.kept g).at_ n0.toNat _ (Qt.node_in e))
  have hpa := fun (e : Cf.check c = 0) w2 (g : Below w.heap.size w w2) => rPath_any c.nodes an ah cn nb no c.hosts.length ch c.half c.age n0 w2 (s1.kept g) (Qt.check_few e)
  have hsum := fun (e : Cf.check c = 0) l lo cp lb li x w2 (g : Below w.heap.size w w2) (q : Sl V3.c 26 3 w2 lo cp lb li l) => rSum_any c.nodes l an ah lo cn nb no c.hosts.length ch cp lb li c.half c.age x w2 (s1.kept g) (Qt.check_few e) q
  have hnom := fun (e : Cf.check c = 0) x w2 (g : Below w.heap.size w w2) => rNominal_any c.nodes an ah cn nb no c.hosts.length ch c.half c.age x w2 (s1.kept g) (Qt.check_few e)
  obtain ⟨F, hF⟩ : ∃ f, (decide (Cf.check c = 0) && decide (used.length ≤ 100)) = f := ⟨_, rfl⟩
  have hck : F = true → Cf.check c = 0 ∧ used.length ≤ 100 := fun e => by rw [← hF] at e; simpa using e
  rw [hF] at cm
  obtain ⟨VV, hVV⟩ : ∃ f, Cf.valid ⟨n1, n2, n3⟩ = f := ⟨_, rfl⟩
  obtain ⟨M, hM⟩ : ∃ f, Qt.may c.nodes used n0 ⟨n1, n2, n3⟩ = f := ⟨_, rfl⟩
  obtain ⟨P, hP⟩ : ∃ f, Qt.path c.nodes n0 = f := ⟨_, rfl⟩
  obtain ⟨NOW, hNOW⟩ : ∃ f, Qt.now c.nodes used n0 ⟨n1, n2, n3⟩ = f := ⟨_, rfl⟩
  obtain ⟨SU, hSU⟩ : ∃ f : Int → V3, (fun x => Qt.sum c.nodes x NOW) = f := ⟨_, rfl⟩
  obtain ⟨NO, hNO⟩ : ∃ f : Int → V3, Qt.nominal c.nodes = f := ⟨_, rfl⟩
  obtain ⟨AD, hAD⟩ : ∃ f : V3, (Qt.nd c.nodes n0).nom = f := ⟨_, rfl⟩
  obtain ⟨BO, hBO⟩ : ∃ f : V3, (Qt.nd c.nodes n0).bor = f := ⟨_, rfl⟩
  have hsuE : ∀ x, Qt.sum c.nodes x NOW = SU x := fun x => by rw [← hSU]
  obtain ⟨ND, hND⟩ : ∃ v : V3, (⟨n1, n2, n3⟩ : V3) = v := ⟨_, rfl⟩
  obtain ⟨AT, hAT⟩ : ∃ v : V3, Qt.ath used n0 = v := ⟨_, rfl⟩
  obtain ⟨u, huE⟩ : ∃ f : Int → V3, Qt.ath used = f := ⟨_, rfl⟩
  have hsum' := fun (e : Cf.check c = 0) => hsum e NOW
  simp only [hVV] at cv hsafe
  simp only [hM] at c1 hsafe hleaf hnow
  simp only [hP] at hpa hsafe
  simp only [hNOW] at hset hnow hsafe
  simp only [hsuE] at hsum' hsafe
  simp only [hNO] at hnom hsafe
  simp only [hAD] at hnd hsafe
  simp only [hBO] at hne hsafe
  have hnlen : NOW.length = c.nodes.length := by rw [← hset _ rfl, List.length_set, hfl]
  simp only [hnlen] at hsum'
  simp only [huE] at hat hfat hset hnow
  have huj : ∀ j : Nat, Qt.ath used (j : Int) = u (j : Int) := fun j => by rw [huE]
  obtain ⟨AV, hAV⟩ : ∃ v, u n0 = v := ⟨_, rfl⟩
  rw [hAV] at hfat hset hnow
  have hadd := fun w => rAdd3 AV ⟨n1, n2, n3⟩ w
  have hadd2 := fun w => rAdd3 AD BO w
  obtain ⟨TN, hTN⟩ : ∃ v, Qt.add AV ⟨n1, n2, n3⟩ = v := ⟨_, rfl⟩
  obtain ⟨LN, hLN⟩ : ∃ v, Qt.add AD BO = v := ⟨_, rfl⟩
  rw [hTN] at hset hnow
  simp only [hTN] at hadd
  rw [hLN] at hsafe
  simp only [hLN] at hadd2
  have hsafe' := fun e e2 (e3 : M = true) e4 => (hnow e3) ▸ hsafe e e2 e3 e4
  obtain ⟨nl, hnlE⟩ : ∃ n, c.nodes.length = n := ⟨_, rfl⟩
  obtain ⟨hl, hhlE⟩ : ∃ n, c.hosts.length = n := ⟨_, rfl⟩
  obtain ⟨ul, hulE⟩ : ∃ n, used.length = n := ⟨_, rfl⟩
  have hset' := hset nl hnlE
  have hfat' := hfat nl
  have hfls := fun j (e : j < nl) => Qt.fill_succ used nl j e
  have hfl0 := Qt.fill_zero used nl
  have hfll := hfl nl
  simp only [huj] at hfls
  obtain ⟨FL, hFL⟩ : ∃ f, Qt.fill used nl = f := ⟨_, rfl⟩
  rw [hFL] at hset' hfat' hfl0 hfll
  simp only [hFL] at hfls
  have hnt : 0 ≤ n0 ∧ n0 < (nl : Int) → NOW[n0.toNat]? = some TN := fun e => by
    rw [← hset', List.getElem?_set, if_pos rfl, if_pos (by rw [hfll]; omega)]
  have uidx := hU.idx
  have u63 := hU.small
  rw [hnlE, hhlE] at hpa hsum' hnom
  rw [hnlE] at hnd hne hnl hleaf hnlen hfew
  rw [hulE] at cm c1 hat hck uidx u63
  rw [hnlE, hhlE] at cm c1
  rw [hnlE, hhlE, hulE]
  clear hF hVV hM hP hNOW hSU hNO hAD hBO hsuE hND hAT huE hsum hsafe hnow hset hfat hfl hAV hTN hLN hFL huj hnlE hhlE s1 s2 hw hu nw
  obtain ⟨zu, hzu⟩ : ∃ z : Int, (ul : Int) = z := ⟨_, rfl⟩
  obtain ⟨zn, hzn⟩ : ∃ z : Int, (nl : Int) = z := ⟨_, rfl⟩
  obtain ⟨kind, nodes, hosts, half, age, g, n⟩ := c
  simp only [Cmd.f, V3.c] at *
  have CM := Lib.hid cm; have CV := Lib.hid cv; have C1 := Lib.hid (fun (e : F = true) => c1 (hck e).1 (hck e).2); have HSAFE := Lib.hid (fun (e : F = true) => hsafe' (hck e).1)
  have HNOM := Lib.hid (fun (e : F = true) => hnom (hck e).1); have HSUM := Lib.hid (fun (e : F = true) => hsum' (hck e).1); have HPA := Lib.hid (fun (e : F = true) => hpa (hck e).1); have HFEW := Lib.hid (fun (e : F = true) => And.intro (hfew (hck e).1) (hck e).2)
  have HLEAF := Lib.hid hleaf; have HADD := Lib.hid hadd; have HADD2 := Lib.hid hadd2; have HND := Lib.hid hnd; have HNE := Lib.hid hne; have HNL := Lib.hid hnl; have HAT := Lib.hid hat; have HFLL := Lib.hid hfll; have HFL0 := Lib.hid hfl0; have HFAT := Lib.hid hfat'; have HSET := Lib.hid hset'; have HFLS := Lib.hid hfls; have HNT := Lib.hid hnt; have UIDX := Lib.hid uidx; have HU := Lib.hid hU
  have HUL := Lib.hid (And.intro hulE hzu); have HNN := Lib.hid hnlen
  have RA := Lib.hid ((Row.new w #[.slice an nl cn, .slice ah hl ch, .int .i64 half, .int .i64 age] 25).under ((Below.refl _ _).alloc (Nat.le_refl _) (.cells #[.int .i64 n0, .int .i64 n1, .int .i64 n2, .int .i64 n3] 27)))
  have rb := Row.new (w.alloc (.cells #[.slice an nl cn, .slice ah hl ch, .int .i64 half, .int .i64 age] 25)) #[.int .i64 n0, .int .i64 n1, .int .i64 n2, .int .i64 n3] 27
  rw [World.size_alloc] at rb
  have g0 := Lib.hid (two_below w (.cells #[.slice an nl cn, .slice ah hl ch, .int .i64 half, .int .i64 age] 25) (.cells #[.int .i64 n0, .int .i64 n1, .int .i64 n2, .int .i64 n3] 27))
  have q0 : ((w.alloc (.cells #[.slice an nl cn, .slice ah hl ch, .int .i64 half, .int .i64 age] 25)).alloc (.cells #[.int .i64 n0, .int .i64 n1, .int .i64 n2, .int .i64 n3] 27)).cell? ⟨w.heap.size + 1, 0, none⟩ = some (.int .i64 n0) := rb.at_ 0
  have q1 : ((w.alloc (.cells #[.slice an nl cn, .slice ah hl ch, .int .i64 half, .int .i64 age] 25)).alloc (.cells #[.int .i64 n0, .int .i64 n1, .int .i64 n2, .int .i64 n3] 27)).cell? ⟨w.heap.size + 1, 1, none⟩ = some (.int .i64 n1) := rb.at_ 1
  have q2 : ((w.alloc (.cells #[.slice an nl cn, .slice ah hl ch, .int .i64 half, .int .i64 age] 25)).alloc (.cells #[.int .i64 n0, .int .i64 n1, .int .i64 n2, .int .i64 n3] 27)).cell? ⟨w.heap.size + 1, 2, none⟩ = some (.int .i64 n2) := rb.at_ 2
  have q3 : ((w.alloc (.cells #[.slice an nl cn, .slice ah hl ch, .int .i64 half, .int .i64 age] 25)).alloc (.cells #[.int .i64 n0, .int .i64 n1, .int .i64 n2, .int .i64 n3] 27)).cell? ⟨w.heap.size + 1, 3, none⟩ = some (.int .i64 n3) := rb.at_ 3
  clear cm cv c1 hsafe' hnom hsum' hpa hfew hck hleaf hadd hadd2 hnd hne hnl hat hfll hfl0 hfat' hset' hfls hnt uidx hU hulE hnlen rb i0 i1 i2 i3
  go_enter Try.func3, Try.ntmps3
  go_wp2_with fail
  obtain ⟨W, hW⟩ : ∃ v, (w.alloc (.cells #[.slice an nl cn, .slice ah hl ch, .int .i64 half, .int .i64 age] 25)).alloc (.cells #[.int .i64 n0, .int .i64 n1, .int .i64 n2, .int .i64 n3] 27) = v := ⟨_, rfl⟩
  rw [hW] at g0 RA q0 q1 q2 q3 ⊢
  go_region_held3 (fun w' => w'.cell? ⟨w.heap.size + 1, 0, none⟩ = some (.int .i64 n0) ∧ w'.cell? ⟨w.heap.size + 1, 1, none⟩ = some (.int .i64 n1) ∧ w'.cell? ⟨w.heap.size + 1, 2, none⟩ = some (.int .i64 n2) ∧ w'.cell? ⟨w.heap.size + 1, 3, none⟩ = some (.int .i64 n3)) (first | assumption | exact ⟨q0, q1, q2, q3⟩ | go_keep) (fail)
  have zW : W.heap.size = w.heap.size + 1 + 1 := by rw [← hW, World.size_alloc, World.size_alloc]
  have al : Below W.heap.size W ((W.alloc (.cells #[.int .i64 n1, .int .i64 n2, .int .i64 n3] 29)).drew) := below_drewN ((Below.refl _ _).alloc (Nat.le_refl _) _) 1
  have rn := (show Row ((W.alloc (.cells #[.int .i64 n1, .int .i64 n2, .int .i64 n3] 29)).drew) W.heap.size #[.int .i64 n1, .int .i64 n2, .int .i64 n3] 29 from Row.new W _ _)
  rw [zW] at rn
  have S1 := Lib.hid (show SfSo w #[.slice an nl cn, .slice ah hl ch, .int .i64 half, .int .i64 age] #[.int .i64 n1, .int .i64 n2, .int .i64 n3] ((W.alloc (.cells #[.int .i64 n1, .int .i64 n2, .int .i64 n3] 29)).drew) from ⟨below_trans g0.out al, RA.out.under al, rn⟩)
  obtain ⟨w1, hw1⟩ : ∃ v, (W.alloc (.cells #[.int .i64 n1, .int .i64 n2, .int .i64 n3] 29)).drew = v := ⟨_, rfl⟩
  rw [hw1] at S1 ⊢
  clear al hw1 rn RA g0 q0 q1 q2 q3 hW
  have d0 : w1.cell? ⟨w.heap.size, 0, none⟩ = some (.slice an nl cn) := S1.out.cfg.at_ 0
  have d1 : w1.cell? ⟨w.heap.size, 1, none⟩ = some (.slice ah hl ch) := S1.out.cfg.at_ 1
  have d2 : w1.cell? ⟨w.heap.size, 2, none⟩ = some (.int .i64 half) := S1.out.cfg.at_ 2
  have d3 : w1.cell? ⟨w.heap.size, 3, none⟩ = some (.int .i64 age) := S1.out.cfg.at_ 3
  go_wp2_with fail
  refine (CM.out _ S1.out.low).mono ?_
  rintro er w2 ⟨rfl, b2⟩
  have S2 := Lib.hid (S1.out.kept b2)
  clear b2 d0 d1 d2 d3
  cases F
  · go_wp2_with fail
    refine (cA.out _).mono ?_
    rintro er wz ⟨rfl, bz⟩
    have GZ := Lib.hid (below_trans S2.out.low bz); clear bz
    go_wp2_with fail
    go_ret
    exact ⟨rfl, GZ.out⟩
  have p0 : w2.cell? ⟨w.heap.size + 1 + 1, 0, none⟩ = some (.int .i64 n1) := S2.out.need.at_ 0
  have p1 : w2.cell? ⟨w.heap.size + 1 + 1, 1, none⟩ = some (.int .i64 n2) := S2.out.need.at_ 1
  have p2 : w2.cell? ⟨w.heap.size + 1 + 1, 2, none⟩ = some (.int .i64 n3) := S2.out.need.at_ 2
  go_wp2_with fail
  refine (CV.out _).mono ?_
  rintro er w3 ⟨rfl, b2⟩
  have S3 := Lib.hid (S2.out.kept b2)
  clear b2 p0 p1 p2
  cases VV
  · go_wp2_with fail
    refine (cA.out _).mono ?_
    rintro er wz ⟨rfl, bz⟩
    have GZ := Lib.hid (below_trans S3.out.low bz); clear bz
    go_wp2_with fail
    go_ret
    exact ⟨rfl, GZ.out⟩
  have d0 : w3.cell? ⟨w.heap.size, 0, none⟩ = some (.slice an nl cn) := S3.out.cfg.at_ 0
  have d1 : w3.cell? ⟨w.heap.size, 1, none⟩ = some (.slice ah hl ch) := S3.out.cfg.at_ 1
  have d2 : w3.cell? ⟨w.heap.size, 2, none⟩ = some (.int .i64 half) := S3.out.cfg.at_ 2
  have d3 : w3.cell? ⟨w.heap.size, 3, none⟩ = some (.int .i64 age) := S3.out.cfg.at_ 3
  have p0 : w3.cell? ⟨w.heap.size + 1 + 1, 0, none⟩ = some (.int .i64 n1) := S3.out.need.at_ 0
  have p1 : w3.cell? ⟨w.heap.size + 1 + 1, 1, none⟩ = some (.int .i64 n2) := S3.out.need.at_ 1
  have p2 : w3.cell? ⟨w.heap.size + 1 + 1, 2, none⟩ = some (.int .i64 n3) := S3.out.need.at_ 2
  go_wp2_with fail
  refine (C1.out (by trivial) _ S3.out.low).mono ?_
  rintro er w4 ⟨rfl, b2⟩
  have S4 := Lib.hid (S3.out.kept b2)
  clear b2 d0 d1 d2 d3 p0 p1 p2
  cases M
  · go_wp2_with fail
    refine (cA.out _).mono ?_
    rintro er wz ⟨rfl, bz⟩
    have GZ := Lib.hid (below_trans S4.out.low bz); clear bz
    go_wp2_with fail
    go_ret
    exact ⟨rfl, GZ.out⟩
  go_wp2_with fail
  go_loopw [9] (fun i wr => ∃ (j : Int), i = .int .i64 j ∧ 0 ≤ j ∧ j ≤ zu ∧ Hid (∀ k : Nat, k < j.toNat → ∀ v, used[k]? = some v → Cf.valid v = true) ∧ Hid (SfSo w #[.slice an nl cn, .slice ah hl ch, .int .i64 half, .int .i64 age] #[.int .i64 n1, .int .i64 n2, .int .i64 n3] wr)) (fun i _ => (zu - intOf i).toNat)
  case atStart => exact ⟨0, rfl, by omega, by omega, fun k hk => by simp at hk, S4.out⟩
  case round =>
    obtain ⟨j, rfl, hj0, hjz, hd, hs⟩ := hrel
    by_cases hlt : j < zu
    · obtain ⟨x, hx⟩ : ∃ x, used[j.toNat]? = some x := ⟨_, List.getElem?_eq_getElem (by have := HUL.out; omega)⟩
      have hi := UIDX.out j.toNat (by have := HUL.out; omega)
      rw [show ((j.toNat : Nat) : Int) = j by omega] at hi
      have hr := (HU.out.kept hs.out.low).at_ j.toNat x hx
      obtain ⟨oi, hoi⟩ : ∃ n, oo + j.toNat * 3 = n := ⟨_, rfl⟩
      rw [hoi] at hi hr
      have hv := fun w2 => rValid3 x w2
      obtain ⟨f, hf⟩ : ∃ f, Cf.valid x = f := ⟨_, rfl⟩
      rw [hf] at hv
      have hd' : f = true → ∀ k : Nat, k < (j + 1).toNat → ∀ v, used[k]? = some v → Cf.valid v = true := fun e k hk v hv => by
        rcases Nat.lt_or_ge k j.toNat with q | q
        · exact hd.out k q v hv
        · obtain rfl : k = j.toNat := by omega
          rw [hx] at hv
          obtain rfl := Option.some.inj hv
          rw [hf, e]
      obtain ⟨x1, x2, x3⟩ := x
      simp only [V3.c] at hr hv
      have HD := Lib.hid hd'; have HR := Lib.hid hr; have HV := Lib.hid hv
      clear hd' hd hr hv hx hf hoi
      go_wp2_with (first | (refine wpList_load_mid rfl 29 _ rfl bb oi rfl _ _ HR.out Try.underlying29 rfl vec_len ?_) | fail)
      refine (HV.out _).mono ?_
      rintro er w5 ⟨rfl, b5⟩
      have S5 := Lib.hid (hs.out.kept b5)
      clear b5 HR HV hs
      cases f
      · go_wp2_with fail
        refine (cA.out _).mono ?_
        rintro er wz ⟨rfl, bz⟩
        have GZ := Lib.hid (below_trans S5.out.low bz); clear bz
        go_wp2_with fail
        go_ret
        exact ⟨rfl, GZ.out⟩
      go_wp2_with fail
      go_roundw
      case rel => exact ⟨j + 1, rfl, by omega, by omega, HD.out trivial, S5.out⟩
      case measure => simp [intOf]; omega
    · have hall : ∀ v ∈ used, Cf.valid v = true := fun v hv => by
        obtain ⟨k, hk, e⟩ := List.mem_iff_getElem.1 hv
        exact hd.out k (by have := HUL.out; omega) v (by rw [List.getElem?_eq_getElem hk, e])
      obtain ⟨hsf, hft⟩ := HSAFE.out (by trivial) (by trivial) (by trivial) hall
      have HSF := Lib.hid hsf; have HFT := Lib.hid hft; have S5 := Lib.hid hs.out; have HLF := Lib.hid (HLEAF.out (by trivial)); have H12 := HFEW.out (by trivial)
      clear hsf hft hall hd hs HSAFE
      have hmk := make_now wr nl H12.1
      rw [← HFL0.out, hzn] at hmk
      have hB : w.heap.size + 1 + 1 < wr.heap.size := S5.out.need.lt
      have al := (Below.refl wr.heap.size wr).alloc (Nat.le_refl wr.heap.size) (.cells (cellsOf V3.c (FL 0)).toArray 29)
      have t0 := And.intro (Row.new wr (cellsOf V3.c (FL 0)).toArray 29) (S5.out.kept al)
      have d0 : wr.cell? ⟨w.heap.size, 0, none⟩ = some (.slice an nl cn) := S5.out.cfg.at_ 0
      obtain ⟨B, hBe⟩ : ∃ b, wr.heap.size = b := ⟨_, rfl⟩
      rw [hBe] at hB hmk t0
      have T0 := Lib.hid t0
      clear t0 al S5 hBe
      go_wp2_with fail
      clear d0 hmk
      go_loopw [11] (fun i wq => ∃ (j : Int), i = .int .i64 j ∧ 0 ≤ j ∧ j ≤ zn ∧ Hid (Row wq B (cellsOf V3.c (FL j.toNat)).toArray 29 ∧ SfSo w #[.slice an nl cn, .slice ah hl ch, .int .i64 half, .int .i64 age] #[.int .i64 n1, .int .i64 n2, .int .i64 n3] wq)) (fun i _ => (zn - intOf i).toNat)
      case atStart => exact ⟨0, rfl, by omega, by omega, T0.out⟩
      case round =>
        obtain ⟨j, rfl, hj0, hjz, hd⟩ := hrel
        obtain ⟨hrow, hso⟩ := hd.out
        by_cases hlt : j < zn
        · have hi := vec_idx B nl nl j.toNat (by omega)
          rw [show ((j.toNat : Nat) : Int) = j by omega] at hi
          have hca := fun w2 (g : Below wr.heap.size wr w2) => HAT.out w2 (below_trans hso.low g) j
          obtain ⟨x, hx⟩ : ∃ x, u j = x := ⟨_, rfl⟩
          simp only [hx] at hca
          have hfs := HFLS.out j.toNat (by omega)
          rw [show ((j.toNat : Nat) : Int) = j by omega, hx] at hfs
          obtain ⟨x1, x2, x3⟩ := x
          simp only at hca
          have HCA := Lib.hid hca; have HROW := Lib.hid hrow; have HSO := Lib.hid hso; have HFS := Lib.hid hfs
          clear hca hrow hso hfs hx hd
          go_wp2_with fail
          refine (HCA.out _ (Below.refl _ _)).mono ?_
          rintro er w6 ⟨rfl, b6⟩
          have R6 := Lib.hid (HROW.out.under b6)
          have hth := row_there R6.out j.toNat (by rw [HFLL.out]; omega)
          have fin := And.intro (row_set3 R6.out j.toNat ⟨x1, x2, x3⟩ (by rw [HFLL.out]; omega)) ((HSO.out.kept b6).aside hB (but_set3 w6 B (0 + j.toNat * 3) (.int .i64 x1) (.int .i64 x2) (.int .i64 x3)))
          rw [HFS.out] at fin
          obtain ⟨oi, hoi⟩ : ∃ n, 0 + j.toNat * 3 = n := ⟨_, rfl⟩
          simp only [hoi] at hi hth fin
          have HTH := Lib.hid hth; have FIN := Lib.hid fin
          clear hth fin b6 R6 HROW HSO HCA HFS hoi
          go_wp2_with (first | (refine wpList_store_mid rfl 29 _ _ rfl B oi #[.int .i64 x1, .int .i64 x2, .int .i64 x3] rfl rfl HTH.out vec_len (one_cells x1 x2 x3) ?_) | fail)
          go_roundw
          case rel => exact ⟨j + 1, rfl, by omega, by omega, by rw [show (j + 1).toNat = j.toNat + 1 by omega]; exact FIN.out⟩
          case measure => simp [intOf]; omega
        · rw [show j.toNat = nl by omega] at hrow
          have hi := vec_idx B nl nl n0.toNat (by have := HLF.out; omega)
          rw [show ((n0.toNat : Nat) : Int) = n0 by have := HLF.out; omega] at hi
          have hr := (row_sl hrow (by rw [HFLL.out]; omega) nl).at_ n0.toNat AV (HFAT.out HLF.out)
          have hth := fun w2 (g : Below wr.heap.size wr w2) => row_there (hrow.under g) n0.toNat (by rw [HFLL.out]; have := HLF.out; omega)
          have fin := fun w2 (g : Below wr.heap.size wr w2) => And.intro (row_set3 (hrow.under g) n0.toNat TN (by rw [HFLL.out]; have := HLF.out; omega)) ((hso.kept g).aside hB (but_set3 w2 B (0 + n0.toNat * 3) (.int .i64 TN.x) (.int .i64 TN.y) (.int .i64 TN.z)))
          simp only [HSET.out] at fin
          obtain ⟨oi, hoi⟩ : ∃ n, 0 + n0.toNat * 3 = n := ⟨_, rfl⟩
          simp only [hoi] at hi hr hth fin
          simp only [V3.c] at hr
          have hrr := fun w2 (g : Below wr.heap.size wr w2) => (show w2.rangeAt B oi [.int .i64 AV.x, .int .i64 AV.y, .int .i64 AV.z] from fun j v hj => (g.cell (p := ⟨B, _, none⟩) hrow.lt).trans (hr j v hj))
          have hrn := fun w2 (g : Below wr.heap.size wr w2) => vec_row' hso.need g
          have HI := Lib.hid hi; have HRR := Lib.hid hrr; have HRN := Lib.hid hrn; have HTH := Lib.hid hth; have FIN := Lib.hid fin
          clear hi hr hrr hrn hth fin hrow hso hd
          go_wp2_with fail
          refine region_quiet_tail 9 (fun w2 => Below wr.heap.size wr w2) (by kernel_rfl) (by kernel_rfl) (below_drewN (Below.refl _ _) 1) ?_
          simp only [List.take_succ_cons, List.take_zero, List.drop_succ_cons, List.drop_zero]
          repeat (first
            | (go_big_quiet_skip)
            | (refine quiet_row _ _ 29 _ _ HRN.out rfl rfl ?_ Try.underlying29 rfl ?_ ?_; (focus kernel_rfl); (focus kernel_rfl); simp only [Act.put, List.setIfInBounds_toArray, List.set_cons_zero, List.set_cons_succ])
            | (with_reducible refine quiet_index 26 _ _ _ _ _ (fun w0 => HI.out w0) rfl rfl rfl ?_ ?_; (focus kernel_rfl); simp only [Act.put, List.setIfInBounds_toArray, List.set_cons_zero, List.set_cons_succ])
            | (refine quiet_mid B oi _ 29 _ _ HRR.out rfl rfl ?_ Try.underlying29 rfl ?_ ?_; (focus kernel_rfl); (focus kernel_rfl); simp only [Act.put, List.setIfInBounds_toArray, List.set_cons_zero, List.set_cons_succ])
            | (go_big_quiet_step ((intro g2; first
              | (with_reducible rfl)
              | (with_reducible exact quiet_below g2 (HADD.out _))))))
          refine wpQuiet_nil ?_
          intro w6 g6
          have HTH6 := Lib.hid (HTH.out w6 g6); have F6 := Lib.hid (FIN.out w6 g6)
          clear g6 HTH FIN HRR HRN HI
          have e0 : (w6.setCells B oi [.int .i64 TN.x, .int .i64 TN.y, .int .i64 TN.z]).cell? ⟨w.heap.size, 0, none⟩ = some (.slice an nl cn) := F6.out.2.cfg.at_ 0
          have e1 : (w6.setCells B oi [.int .i64 TN.x, .int .i64 TN.y, .int .i64 TN.z]).cell? ⟨w.heap.size, 1, none⟩ = some (.slice ah hl ch) := F6.out.2.cfg.at_ 1
          have e2 : (w6.setCells B oi [.int .i64 TN.x, .int .i64 TN.y, .int .i64 TN.z]).cell? ⟨w.heap.size, 2, none⟩ = some (.int .i64 half) := F6.out.2.cfg.at_ 2
          have e3 : (w6.setCells B oi [.int .i64 TN.x, .int .i64 TN.y, .int .i64 TN.z]).cell? ⟨w.heap.size, 3, none⟩ = some (.int .i64 age) := F6.out.2.cfg.at_ 3
          go_wp2_with (first | (refine wpList_store_mid rfl 29 _ _ rfl B oi #[.int .i64 TN.x, .int .i64 TN.y, .int .i64 TN.z] rfl rfl HTH6.out vec_len (one_cells TN.x TN.y TN.z) ?_) | fail)
          refine (HPA.out (by trivial) _ F6.out.2.low).mono ?_
          rintro er w8 ⟨v, rfl, ow, b8⟩
          have R8 := Lib.hid (F6.out.1.under b8); have S8 := Lib.hid (F6.out.2.kept b8)
          obtain ⟨lo, lc, lb, rfl, sl⟩ := own_slice iC 36 (k := 1) (fun x => rfl) ow (fun b len cap i hi w0 => int_index b len cap i hi w0)
          have hix := sl.idx
          have p63 := sl.small
          have hcl := fun w9 (g : Below w8.heap.size w8 w9) (k : Nat) x (hx : P[k]? = some x) => (show w9.cell? ⟨lb, 0 + k * 1, none⟩ = some (.int .i64 x) from (sl.kept g).at_ k x hx 0 _ rfl)
          have hdl := fun (k : Nat) x (hx : P[k]? = some x) (e : k < P.length - 1) => (show Cf.fits (SU x) (NO x) = true from HSF.out x (by
            refine List.mem_of_getElem? (i := k) ?_
            rw [List.getElem?_dropLast, if_pos e]
            exact hx))
          have hex := fun (k : Nat) (e : k < P.length) => (show ∃ x, P[k]? = some x from ⟨_, List.getElem?_eq_getElem e⟩)
          obtain ⟨pl, hpl⟩ : ∃ n, P.length = n := ⟨_, rfl⟩
          rw [hpl] at hix p63 hdl hex ⊢
          obtain ⟨zp, hzp⟩ : ∃ z : Int, (pl : Int) = z := ⟨_, rfl⟩
          have HIX := Lib.hid hix; have HCL := Lib.hid hcl; have HDL := Lib.hid hdl; have HEX := Lib.hid hex
          clear hix hcl hdl hex hpl sl ow b8 F6 HTH6 e0 e1 e2 e3 HPA HSF
          go_wp2_with fail
          go_loopw [13] (fun i wq => ∃ (j : Int), i = .int .i64 j ∧ 0 ≤ j ∧ Hid (Below w8.heap.size w8 wq)) (fun i _ => (zp - intOf i).toNat)
          case atStart => exact ⟨0, rfl, by omega, Below.refl _ _⟩
          case round =>
            obtain ⟨j, rfl, hj0, hd⟩ := hrel
            have rw9 := R8.out.under hd.out
            have so9 := S8.out.kept hd.out
            by_cases hlt : j < zp - 1
            · obtain ⟨x, hx⟩ := HEX.out j.toNat (by omega)
              have hi := HIX.out j.toNat (by omega)
              rw [show ((j.toNat : Nat) : Int) = j by omega] at hi
              have hcell := fun w9 (g : Below wr.heap.size wr w9) => HCL.out w9 (below_trans hd.out g) j.toNat x hx
              obtain ⟨oj, hoj⟩ : ∃ n, 0 + j.toNat * 1 = n := ⟨_, rfl⟩
              simp only [hoj] at hi hcell
              have hfit := HDL.out j.toNat x hx (by omega)
              have hcs := fun w9 (g : Below wr.heap.size wr w9) => HSUM.out (by trivial) (some ⟨B, 0, none⟩) nl B 0 x w9 (below_trans so9.low g) (row_sl (rw9.under g) (by rw [HNN.out]; omega) nl)
              have hcn := fun w9 (g : Below wr.heap.size wr w9) => HNOM.out (by trivial) x w9 (below_trans so9.low g)
              have hcf := fun w9 => rFits3 (SU x) (NO x) w9
              simp only [hfit] at hcf
              have rr := fun w9 (g : Below wr.heap.size wr w9) => cfg_row' so9.cfg g
              have HI := Lib.hid hi; have HCE := Lib.hid hcell; have HCS := Lib.hid hcs; have HCN := Lib.hid hcn; have HCF := Lib.hid hcf; have HD := Lib.hid hd.out
              clear hi hcell hcs hcn hcf hfit hoj hx rw9 so9 hd
              go_wp2_with fail
              refine region_quiet (fun w9 => Below wr.heap.size wr w9) (by kernel_rfl) (by kernel_rfl) (below_drewN (Below.refl _ _) 1) ?_
              repeat (first
                | (go_big_quiet_skip)
                | (refine quiet_row _ _ 25 _ _ rr rfl rfl ?_ Try.underlying25 rfl ?_ ?_; (focus kernel_rfl); (focus kernel_rfl); simp only [Act.put, List.setIfInBounds_toArray, List.set_cons_zero, List.set_cons_succ])
                | (with_reducible refine quiet_index 36 _ _ _ _ _ (fun w0 => HI.out w0) rfl rfl rfl ?_ ?_; (focus kernel_rfl); simp only [Act.put, List.setIfInBounds_toArray, List.set_cons_zero, List.set_cons_succ])
                | (refine quiet_cell _ _ 3 _ _ HCE.out rfl rfl ?_ Try.underlying3 rfl ?_; (focus kernel_rfl); simp only [Act.put, List.setIfInBounds_toArray, List.set_cons_zero, List.set_cons_succ])
                | (go_big_quiet_step ((intro g2; first
                  | (with_reducible rfl)
                  | (with_reducible exact quiet_below g2 (HCS.out _ g2))
                  | (with_reducible exact quiet_below g2 (HCN.out _ g2))
                  | (with_reducible exact quiet_below g2 (HCF.out _))))))
              refine wpQuiet_nil ?_
              intro w9 g9
              have FIN := Lib.hid (below_trans HD.out g9)
              clear g9 rr HI HCE HCS HCN HCF HD
              go_wp2_with fail
              go_roundw
              case rel => exact ⟨j + 1, rfl, by omega, FIN.out⟩
              case measure => simp [intOf]; omega
            · have lf := HLF.out
              have hi := vec_idx B nl nl n0.toNat (by omega)
              rw [show ((n0.toNat : Nat) : Int) = n0 by omega] at hi
              have hr := (row_sl rw9 (by rw [HNN.out]; omega) nl).at_ n0.toNat TN (HNT.out lf)
              obtain ⟨oi, hoi⟩ : ∃ n, 0 + n0.toNat * 3 = n := ⟨_, rfl⟩
              simp only [hoi] at hi hr
              simp only [V3.c] at hr
              have hrr := fun w9 (g : Below wr.heap.size wr w9) => (show w9.rangeAt B oi [.int .i64 TN.x, .int .i64 TN.y, .int .i64 TN.z] from fun j v hj => (g.cell (p := ⟨B, _, none⟩) rw9.lt).trans (hr j v hj))
              have hni := HNL.out n0.toNat (by omega)
              rw [show ((n0.toNat : Nat) : Int) = n0 by omega] at hni
              have hnr := fun w9 (g : Below wr.heap.size wr w9) => HND.out w9 (below_trans so9.low g) lf
              have hner := fun w9 (g : Below wr.heap.size wr w9) => HNE.out w9 (below_trans so9.low g) lf
              obtain ⟨on, hon⟩ : ∃ n, no + n0.toNat * 11 = n := ⟨_, rfl⟩
              simp only [hon] at hni hnr hner
              have hc0 := fun w9 (g : Below wr.heap.size wr w9) => (g.cell (p := ⟨w.heap.size, 0, none⟩) so9.cfg.lt).trans (show wr.cell? ⟨w.heap.size, 0, none⟩ = some (.slice an nl cn) from so9.cfg.at_ 0)
              have hcf := fun w9 => rFits3 TN LN w9
              simp only [HFT.out] at hcf
              have LOW := Lib.hid so9.low
              have HI := Lib.hid hi; have HRR := Lib.hid hrr; have HNI := Lib.hid hni; have HNR := Lib.hid hnr; have HNER := Lib.hid hner; have HC0 := Lib.hid hc0; have HCF := Lib.hid hcf
              clear hi hr hrr hni hnr hner hc0 hcf hoi hon rw9 so9 hd
              go_wp2_with fail
              refine region_quiet (fun w9 => Below wr.heap.size wr w9) (by kernel_rfl) (by kernel_rfl) (below_drewN (Below.refl _ _) 1) ?_
              repeat (first
                | (go_big_quiet_skip)
                | (with_reducible refine quiet_index 26 _ _ _ _ _ (fun w0 => HI.out w0) rfl rfl rfl ?_ ?_; (focus kernel_rfl); simp only [Act.put, List.setIfInBounds_toArray, List.set_cons_zero, List.set_cons_succ])
                | (with_reducible refine quiet_index 22 _ _ _ _ _ (fun w0 => HNI.out w0) rfl rfl rfl ?_ ?_; (focus kernel_rfl); simp only [Act.put, List.setIfInBounds_toArray, List.set_cons_zero, List.set_cons_succ])
                | (refine quiet_mid B oi _ 29 _ _ HRR.out rfl rfl ?_ Try.underlying29 rfl ?_ ?_; (focus kernel_rfl); (focus kernel_rfl); simp only [Act.put, List.setIfInBounds_toArray, List.set_cons_zero, List.set_cons_succ])
                | (refine quiet_mid nb (on + 2) _ 29 _ _ HNR.out rfl rfl ?_ Try.underlying29 rfl ?_ ?_; (focus kernel_rfl); (focus kernel_rfl); simp only [Act.put, List.setIfInBounds_toArray, List.set_cons_zero, List.set_cons_succ])
                | (refine quiet_mid nb (on + 5) _ 29 _ _ HNER.out rfl rfl ?_ Try.underlying29 rfl ?_ ?_; (focus kernel_rfl); (focus kernel_rfl); simp only [Act.put, List.setIfInBounds_toArray, List.set_cons_zero, List.set_cons_succ])
                | (refine quiet_cell _ _ 22 _ _ HC0.out rfl rfl ?_ Try.underlying22 rfl ?_; (focus kernel_rfl); simp only [Act.put, List.setIfInBounds_toArray, List.set_cons_zero, List.set_cons_succ])
                | (go_big_quiet_step ((intro g2; first
                  | (with_reducible rfl)
                  | (with_reducible exact quiet_below g2 (HADD2.out _))
                  | (with_reducible exact quiet_below g2 (HCF.out _))
                  | (with_reducible exact quiet_below g2 (cA.out _))))))
              refine wpQuiet_nil ?_
              intro w9 g9
              have FIN := Lib.hid (below_trans LOW.out g9)
              clear g9 HI HRR HNI HNR HNER HC0 HCF LOW
              go_wp2_with fail
              go_ret
              exact ⟨rfl, FIN.out⟩

end Go.Proofs.Ytkakgjmajplgmaa
