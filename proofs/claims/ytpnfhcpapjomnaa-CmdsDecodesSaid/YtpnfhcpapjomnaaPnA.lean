/- The landed numbers: a byte, the parts joined, Put, PutVec. -/
import Derived.Test.YtpnfhcpapjomnaaNumC
import Derived.Laws.BitsLemmas
namespace Go.Proofs.Ytpnfhcpapjomnaa
open Go.RowKit
set_option linter.unusedVariables false

/-- The parts, one behind the other. -/
def Nu.cat : List ByteArray → ByteArray
  | [] => ⟨#[]⟩
  | x :: r => x ++ Nu.cat r
theorem cat_flat : ∀ xs : List ByteArray, (Nu.cat xs).data.toList = (xs.map (·.data.toList)).flatten
  | [] => rfl
  | x :: r => by rw [Nu.cat, ba_app, cat_flat r]; rfl
theorem cat_lib : ∀ xs : List (List UInt8), Lib.join xs [] = xs.flatten
  | [] => rfl
  | x :: r => by
    rw [Lib.join_cons, Lib.joinTail, List.flatten_cons]
    congr 2
    rw [show (fun y : List UInt8 => [] ++ y) = id from rfl, List.map_id]
theorem cat_join (xs : List ByteArray) : (⟨(Lib.join (xs.map (·.data.toList)) (⟨#[]⟩ : ByteArray).data.toList).toArray⟩ : ByteArray) = Nu.cat xs := by
  apply ba_ext
  rw [cat_flat, show (⟨#[]⟩ : ByteArray).data.toList = [] from rfl, cat_lib]

theorem join_any (bk o c : Nat) (xs : List ByteArray) (w : World) (hc : ∀ (j : Nat) x, xs[j]? = some x → w.cell? ⟨bk, o + j, none⟩ = some (.string x)) (hb : bk < w.heap.size) (hx : xs.length ≤ 100) (hcap : xs.length ≤ c) (hz : (Nu.cat xs).size ≤ 1000) :
    Calls Try.prog 39 #[.slice (some ⟨bk, o, none⟩) xs.length c] w (RetBelow (.string (Nu.cat xs)) w) := by
  have h := Try.strings_Join bk o c xs ⟨#[]⟩ w hc hb (by omega) hcap (by
    rw [show (⟨#[]⟩ : ByteArray).data.toList = [] from rfl, cat_lib, ← cat_flat, ba_len]; omega)
  rw [cat_join] at h
  have H := Lib.hid h
  clear h hc hz
  obtain ⟨n, hn⟩ : ∃ n, xs.length = n := ⟨_, rfl⟩
  rw [hn] at H ⊢
  clear hn
  go_enter Try.func39, Try.ntmps39
  go_wp2_with fail
  refine H.out.mono ?_
  rintro e w1 ⟨rfl, b1⟩
  have B1 := Lib.hid b1; clear b1
  go_wp2_with fail
  go_ret
  exact ⟨rfl, B1.out⟩

theorem single_any (n : Int) (b : UInt8) (h : n % 256 = (b.toNat : Int)) (w : World) : Calls Try.prog 38 #[.int .i64 n] w (RetBelow (.string ⟨#[b]⟩) w) := by
  have hc := one_conv b (n % 256) h
  clear h
  go_enter Try.func38, Try.ntmps38
  go_wp2_with fail
  go_ret
  exact ⟨rfl, (Below.refl _ _).alloc (Nat.le_refl _) _⟩

set_option maxRecDepth 8000 in
/-- The bit that says that another byte follows. -/
theorem more_bit (n : Int) (h0 : 0 ≤ n) (h : n < 9223372036854775808) : bits .or .i64 n 128 % 256 = 128 + n % 128 := by
  obtain ⟨k, rfl⟩ : ∃ k : Nat, n = k := ⟨n.toNat, by omega⟩
  have e := (bits_nat .i64 63 (by decide) (fun n h0 h1 => by rw [IntKind.wrap_i64]; omega) k 128 (by omega) (by decide)).2
  rw [show ((128 : Nat) : Int) = 128 from rfl] at e
  rw [e]
  have e2 : (k ||| 128) % 256 = (k % 256 ||| 128) := by
    have := Nat.or_mod_two_pow (a := k) (b := 128) (n := 8)
    simpa using this
  have e3 : ∀ m, m < 256 → (m ||| 128) = 128 + m % 128 := by decide
  have e4 := e3 (k % 256) (by omega)
  omega

theorem put_two (n : Int) (h : 128 ≤ n) : Nu.cat [⟨#[UInt8.ofNat (128 + n.toNat % 128)]⟩, Nu.put (n / 128).toNat] = Nu.put n.toNat := by
  have e := put_go ⟨#[]⟩ n.toNat (by omega)
  rw [ba_none, ba_none] at e
  rw [e, show (n / 128).toNat = n.toNat / 128 by omega]
  apply ba_ext
  rw [cat_flat, ba_app]
  simp

set_option maxHeartbeats 400000 in
theorem Put_any : ∀ (k : Nat) (n : Int), n.toNat ≤ k → -9223372036854775808 ≤ n → n < 9223372036854775808 → ∀ w, Calls Try.prog 18 #[.int .i64 n] w (RetBelow (.string (Nu.put n.toNat)) w) := by
  intro k
  induction k with
  | zero =>
    intro n hk hlo hhi w
    have hp : Nu.put n.toNat = ⟨#[UInt8.ofNat n.toNat]⟩ := by have := put_end ⟨#[]⟩ n.toNat (by omega); rwa [ba_none, ba_none] at this
    have hs := fun w => single_any (max n 0) (UInt8.ofNat n.toNat) (by simp <;> omega) w
    rw [hp]
    clear hp
    have HS := Lib.hid hs; clear hs
    obtain ⟨c, hc⟩ : ∃ c, UInt8.ofNat n.toNat = c := ⟨_, rfl⟩
    rw [hc] at HS ⊢
    clear hc
    go_enter Try.func18, Try.ntmps18
    go_wp2_with fail
    refine (HS.out _).mono ?_
    rintro e w1 ⟨rfl, b1⟩
    have B1 := Lib.hid b1; clear b1
    go_wp2_with fail
    go_ret
    exact ⟨rfl, B1.out⟩
  | succ k ih =>
    intro n hk hlo hhi w
    by_cases hge : 128 ≤ n
    · have h1 := fun w => single_any (bits .or .i64 n 128) (UInt8.ofNat (128 + n.toNat % 128)) (by rw [more_bit n (by omega) hhi]; simp; omega) w
      have h2 := fun w => ih (n / 128) (by omega) (by omega) (by omega) w
      have hc := put_two n hge
      have hz := (Nu.put_size n.toNat (by omega)).2
      rw [← hc] at hz ⊢
      clear hc ih hk
      obtain ⟨p, hp⟩ : ∃ p, Nu.put (n / 128).toNat = p := ⟨_, rfl⟩
      obtain ⟨c, hcc⟩ : ∃ c, UInt8.ofNat (128 + n.toNat % 128) = c := ⟨_, rfl⟩
      rw [hp] at h2 hz ⊢
      rw [hcc] at h1 hz ⊢
      clear hp hcc
      have H1 := Lib.hid h1; have H2 := Lib.hid h2; have HZ := Lib.hid hz
      clear h1 h2 hz
      go_enter Try.func18, Try.ntmps18
      go_wp2_with fail
      refine (H1.out _).mono ?_
      rintro e w1 ⟨rfl, b1⟩
      have B1 := Lib.hid b1; clear b1
      go_wp2_with fail
      refine (H2.out _).mono ?_
      rintro e w2 ⟨rfl, b2⟩
      have B2 := Lib.hid (below_trans B1.out b2); clear b2
      go_wp2_with fail
      have hj := join_any w2.heap.size 0 2 [⟨#[c]⟩, p] (w2.alloc (.cells #[.string ⟨#[c]⟩, .string p] 9)) (fun j x hx => by
        rw [Nat.zero_add]
        refine (World.cell?_alloc_at (w := w2) _ _ _ j rfl).trans ?_
        rcases j with _ | _ | j
        · simp at hx; subst hx; rfl
        · simp at hx; subst hx; rfl
        · simp at hx) (by simp) (by simp) (by simp) (by have := HZ.out; omega)
      refine hj.mono ?_
      rintro e w3 ⟨rfl, b3⟩
      have B3 := Lib.hid (below_trans (B2.out.alloc B2.out.size _) b3); clear b3 hj
      go_wp2_with fail
      go_ret
      exact ⟨rfl, B3.out⟩
    · have hp : Nu.put n.toNat = ⟨#[UInt8.ofNat n.toNat]⟩ := by have := put_end ⟨#[]⟩ n.toNat (by omega); rwa [ba_none, ba_none] at this
      have hs := fun w => single_any (max n 0) (UInt8.ofNat n.toNat) (by simp <;> omega) w
      rw [hp]
      clear hp ih hk
      have HS := Lib.hid hs; clear hs
      obtain ⟨c, hc⟩ : ∃ c, UInt8.ofNat n.toNat = c := ⟨_, rfl⟩
      rw [hc] at HS ⊢
      clear hc
      go_enter Try.func18, Try.ntmps18
      go_wp2_with fail
      refine (HS.out _).mono ?_
      rintro e w1 ⟨rfl, b1⟩
      have B1 := Lib.hid b1; clear b1
      go_wp2_with fail
      go_ret
      exact ⟨rfl, B1.out⟩

end Go.Proofs.Ytpnfhcpapjomnaa
