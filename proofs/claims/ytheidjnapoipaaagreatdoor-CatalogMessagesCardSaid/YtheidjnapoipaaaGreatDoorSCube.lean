/- The first bits behind the point of a cube root. -/
import Derived.Test.YtheidjnapoipaaaGreatDoorRows
import Derived.WalkKit
import Derived.WalkSpells
import Derived.WalkLawsBesides
import Derived.Lib.Hide
import Derived.Test.YtheidjnapoipaaaGreatDoorSPlain
import Derived.Test.YtheidjnapoipaaaGreatDoorMem
import Derived.Test.YtheidjnapoipaaaGreatDoorShelf
namespace Go.Proofs.YtheidjnapoipaaaGreatDoor
open Go.RowKit
set_option linter.unusedVariables false

/-- The bit that is tried at the k-th round. -/
def cbit (k : Nat) : Nat := 17179869184 / 2 ^ k
/-- The root behind k rounds. -/
def croot (p : Nat) : Nat → Nat
  | 0 => 0
  | k + 1 => if (croot p k ||| cbit k) ^ 3 / 18446744073709551616 < p * 4294967296 then croot p k ||| cbit k else croot p k
def cubeW (p : Nat) : UInt32 := UInt32.ofNat (croot p 35)

theorem cbit_lt (k : Nat) : cbit k < 34359738368 := by
  unfold cbit
  exact Nat.lt_of_le_of_lt (Nat.div_le_self _ _) (by omega)
theorem cbit_succ (k : Nat) : cbit (k + 1) = cbit k / 2 := by
  unfold cbit
  rw [Nat.pow_succ, Nat.div_div_eq_div_mul]
theorem croot_lt (p k : Nat) : croot p k < 34359738368 := by
  induction k with
  | zero => unfold croot; omega
  | succ k ih =>
    unfold croot
    split
    · exact Nat.or_lt_two_pow (n := 35) ih (cbit_lt k)
    · exact ih
theorem cbit_end : cbit 35 = 0 := by decide
theorem cbit_pos {k : Nat} (h : k < 35) : 0 < cbit k := by
  unfold cbit
  have : 2 ^ k ≤ 2 ^ 34 := Nat.pow_le_pow_right (by omega) (by omega)
  exact Nat.div_pos (by simpa using this) (Nat.pow_pos (by omega))

/-- The cube's high bits, as they are reckoned. -/
theorem cube_high (n : Nat) : n * n / 18446744073709551616 * n + n * n % 18446744073709551616 * n / 18446744073709551616 = n ^ 3 / 18446744073709551616 := by
  have e : n ^ 3 = n * n % 18446744073709551616 * n + 18446744073709551616 * (n * n / 18446744073709551616 * n) := by
    have h := Nat.div_add_mod (n * n) 18446744073709551616
    have h2 : n ^ 3 = n * n * n := by rw [Nat.pow_succ, Nat.pow_two]
    rw [h2]
    conv => lhs; rw [← h]
    rw [Nat.add_mul, Nat.mul_assoc, Nat.add_comm]
  rw [e, Nat.add_mul_div_left _ _ (by omega), Nat.add_comm]

theorem cube_high_lt (n : Nat) (hn : n < 34359738368) : n * n / 18446744073709551616 * n + n * n % 18446744073709551616 * n / 18446744073709551616 < 18446744073709551616 := by
  rw [cube_high]
  have h1 : n ^ 3 ≤ 34359738368 ^ 3 := Nat.pow_le_pow_left (by omega) 3
  have h2 : (34359738368 : Nat) ^ 3 = 40564819207303340847894502572032 := by decide
  omega

set_option maxRecDepth 4000 in
set_option maxHeartbeats 400000 in
theorem cubeHigh_any (n : Nat) (hn : n < 34359738368) (w : World) :
    Calls Tryz.prog 170 #[.int .u64 n] w fun e w' => e = .returned (.int .u64 (n ^ 3 / 18446744073709551616 : Nat)) ∧ w = w' := by
  have hh := cube_high n
  have hlt := cube_high_lt n hn
  obtain ⟨hi, hhi⟩ : ∃ x, n * n / 18446744073709551616 = x := ⟨_, rfl⟩
  obtain ⟨lo, hlo⟩ : ∃ x, n * n % 18446744073709551616 = x := ⟨_, rfl⟩
  have hlo' : lo < 18446744073709551616 := by omega
  obtain ⟨c, hc⟩ : ∃ x, lo * n / 18446744073709551616 = x := ⟨_, rfl⟩
  have M1 := Lib.hid (fun W => Tryz.bits_Mul64 n n (by omega) (by omega) W)
  rw [hhi, hlo] at M1
  have M2 := Lib.hid (fun W => Tryz.bits_Mul64 lo n hlo' (by omega) W)
  rw [hc] at M2
  rw [hhi, hlo, hc] at hh hlt
  obtain ⟨q, hq⟩ : ∃ x, hi * n = x := ⟨_, rfl⟩
  have hqi : (hi : Int) * (n : Int) = (q : Int) := by rw [← hq]; simp
  rw [hq] at hh hlt
  have hs : ((q : Int) + (c : Int)) % 18446744073709551616 = ((q + c : Nat) : Int) := by omega
  have hqm : (q : Int) % 18446744073709551616 = (q : Int) := by omega
  rw [← hh]
  clear hh hhi hlo hc hq
  go_enter Tryz.func170, Tryz.ntmps170
  go_wp2_with fail
  refine (M1.out _).mono ?_
  rintro e w' ⟨rfl, rfl⟩
  go_wp2_with fail
  refine (M2.out _).mono ?_
  rintro e w' ⟨rfl, rfl⟩
  go_wp2_with fail
  go_ret
  exact ⟨ret_int (by go_num), rfl⟩

set_option maxRecDepth 4000 in
set_option maxHeartbeats 400000 in
theorem cubeRoot_any (p : Nat) (hp : p < 512) (w : World) :
    Calls Tryz.prog 164 #[.int .u64 p] w fun e w' => e = .returned (.int .u32 (cubeW p).toNat) ∧ w = w' := by
  go_enter Tryz.func164, Tryz.ntmps164
  go_wp2
  go_loop [3, 4] (fun r b => ∃ k : Nat, k ≤ 35 ∧ b = .int .u64 (cbit k : Nat) ∧ r = .int .u64 (croot p k : Nat)) (fun _ b => (intOf b).toNat)
  case atStart => exact ⟨0, Nat.zero_le _, by kernel_rfl, rfl⟩
  case round =>
    obtain ⟨k, hk, rfl, rfl⟩ := hrel
    by_cases hlt : k < 35
    · have hb := cbit_pos hlt
      have hb2 := cbit_lt k
      have hr2 := croot_lt p k
      have hr3 := croot_lt p (k + 1)
      have hbs := cbit_succ k
      have hrs : croot p (k + 1) = if (croot p k ||| cbit k) ^ 3 / 18446744073709551616 < p * 4294967296 then croot p k ||| cbit k else croot p k := rfl
      have hor := u64_or_nat (croot p k) (cbit k) (by omega) (by omega)
      have hn : croot p k ||| cbit k < 34359738368 := Nat.or_lt_two_pow (n := 35) hr2 hb2
      obtain ⟨b, hbb⟩ : ∃ b, cbit k = b := ⟨_, rfl⟩
      obtain ⟨r, hrr⟩ : ∃ r, croot p k = r := ⟨_, rfl⟩
      rw [hbb] at hb hb2 hbs hrs hor hn
      rw [hrr] at hr2 hrs hor hn
      rw [hbb, hrr]
      obtain ⟨n, hnn⟩ : ∃ n, r ||| b = n := ⟨_, rfl⟩
      rw [hnn] at hrs hor hn
      have HC := Lib.hid (fun W => cubeHigh_any n hn W)
      obtain ⟨q, hq⟩ : ∃ q, n ^ 3 / 18446744073709551616 = q := ⟨_, rfl⟩
      rw [hq] at HC hrs
      have hbi : (0 : Int) < (b : Int) := by omega
      by_cases hc : q < p * 4294967296
      · rw [if_pos hc] at hrs
        have hci : (q : Int) < (p : Int) * 4294967296 := by omega
        have HS := Lib.hid (And.intro hbs hrs)
        clear hbb hrr hnn hq hc hbs hrs
        go_wp2_with (go_at_call 170; refine (HC.out _).mono ?_; rintro e w' ⟨rfl, rfl⟩)
        go_round
        case rel => exact ⟨k + 1, by omega, by rw [HS.out.1]; go_num, by rw [HS.out.2]⟩
        case measure => simp [intOf]; omega
      · rw [if_neg hc] at hrs
        have hci : (p : Int) * 4294967296 ≤ (q : Int) := by omega
        have HS := Lib.hid (And.intro hbs hrs)
        clear hbb hrr hnn hq hc hbs hrs
        go_wp2_with (go_at_call 170; refine (HC.out _).mono ?_; rintro e w' ⟨rfl, rfl⟩)
        go_round
        case rel => exact ⟨k + 1, by omega, by rw [HS.out.1]; go_num, by rw [HS.out.2]⟩
        case measure => simp [intOf]; omega
    · have hk2 : k = 35 := by omega
      have hz : cbit k = 0 := by rw [hk2]; exact cbit_end
      have hz' : ((cbit k : Nat) : Int) = 0 := by rw [hz]; rfl
      rw [hz']
      have hv : ((croot p k : Nat) : Int) % 4294967296 = ((cubeW p).toNat : Int) := by rw [hk2]; unfold cubeW; simp
      obtain ⟨r, hrr⟩ : ∃ r, croot p k = r := ⟨_, rfl⟩
      rw [hrr] at hv
      rw [hrr]
      clear hk2 hz hz' hlt hrr
      go_wp2
      go_ret
      exact ⟨rfl, rfl⟩
end Go.Proofs.YtheidjnapoipaaaGreatDoor
