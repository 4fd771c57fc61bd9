/- Two ranges meet just if they are not apart. -/
import Derived.Test.YtcimcnlonepbcaaGreatDoorRNew
import Derived.Test.YtcimcnlonepbcaaGreatDoorRangesCheckW
namespace Go.Proofs.YtcimcnlonepbcaaGreatDoor
open Go.RowKit
set_option linter.unusedVariables false

theorem cmpB_trans : ∀ a b c : List UInt8, Lib.compareBytes a b ≤ 0 → Lib.compareBytes b c ≤ 0 → Lib.compareBytes a c ≤ 0
  | [], _, [], _, _ => by decide
  | [], _, _ :: _, _, _ => by simp [Lib.compareBytes]
  | _ :: _, [], _, h, _ => by simp [Lib.compareBytes] at h
  | _ :: _, _ :: _, [], _, h => by simp [Lib.compareBytes] at h
  | x :: a, y :: b, z :: c, h1, h2 => by
    have ih := cmpB_trans a b c
    rw [cmpB_cons] at h1 h2 ⊢
    by_cases k1 : x < z
    · rw [if_pos k1]; decide
    · rw [if_neg k1]
      have k2 : ¬ z < x := by
        intro k2
        rw [UInt8.lt_iff_toNat_lt] at k1 k2
        by_cases m1 : x < y
        · rw [UInt8.lt_iff_toNat_lt] at m1
          have m2 : z < y := by rw [UInt8.lt_iff_toNat_lt]; omega
          have m3 : ¬ y < z := by rw [UInt8.lt_iff_toNat_lt] at m2 ⊢; omega
          rw [if_neg m3, if_pos m2] at h2
          exact absurd h2 (by decide)
        · rw [if_neg m1] at h1
          by_cases m4 : y < x
          · rw [if_pos m4] at h1
            exact absurd h1 (by decide)
          · rw [UInt8.lt_iff_toNat_lt] at m1 m4
            have m2 : z < y := by rw [UInt8.lt_iff_toNat_lt]; omega
            have m3 : ¬ y < z := by rw [UInt8.lt_iff_toNat_lt] at m2 ⊢; omega
            rw [if_neg m3, if_pos m2] at h2
            exact absurd h2 (by decide)
      rw [if_neg k2]
      have hxz : x.toNat = z.toNat := by rw [UInt8.lt_iff_toNat_lt] at k1 k2; omega
      have hxy : ¬ x < y ∧ ¬ y < x := by
        constructor
        · intro m1
          have m2 : z < y := by rw [UInt8.lt_iff_toNat_lt] at m1 ⊢; omega
          have m3 : ¬ y < z := by rw [UInt8.lt_iff_toNat_lt] at m2 ⊢; omega
          rw [if_neg m3, if_pos m2] at h2
          exact absurd h2 (by decide)
        · intro m1
          have m3 : ¬ x < y := by rw [UInt8.lt_iff_toNat_lt] at m1 ⊢; omega
          rw [if_neg m3, if_pos m1] at h1
          exact absurd h1 (by decide)
      rw [if_neg hxy.1, if_neg hxy.2] at h1
      have hyz : ¬ y < z ∧ ¬ z < y := by
        have e1 := hxy.1
        have e2 := hxy.2
        rw [UInt8.lt_iff_toNat_lt] at e1 e2
        constructor <;> (rw [UInt8.lt_iff_toNat_lt]; omega)
      rw [if_neg hyz.1, if_neg hyz.2] at h2
      exact ih h1 h2
theorem cmpC_same {a b : List UInt8} (h : a.length = b.length) : cmpC a b = Lib.compareBytes a b := by unfold cmpC; rw [if_neg (by omega), if_neg (by omega)]

theorem chk_zero2 (r : RG) (h : chkN r = 0) : ¬ cmpC r.hi.data.toList r.lo.data.toList < 0 := by
  obtain ⟨h1, h2, h3⟩ := chk_zero r h
  intro hc
  unfold chkN at h
  by_cases hb : (numB r.lo && numB r.hi && decide (r.lo.size = r.hi.size)) = false
  · rw [if_pos hb] at h; cases h
  · rw [if_neg hb, if_pos hc] at h; cases h

theorem meets (a b : RG) (ha : chkN a = 0) (hb : chkN b = 0) : (hasB a b.lo || hasB a b.hi || hasB b a.lo || hasB b a.hi) = !apartB b a := by
  obtain ⟨a1, a2, a3⟩ := chk_zero a ha
  obtain ⟨b1, b2, b3⟩ := chk_zero b hb
  have a4 := chk_zero2 a ha
  have b4 := chk_zero2 b hb
  unfold hasB apartB
  rw [a1, a2, b1, b2]
  have l1 : a.lo.data.toList.length = a.lo.size := by simp
  have l2 : a.hi.data.toList.length = a.hi.size := by simp
  have l3 : b.lo.data.toList.length = b.lo.size := by simp
  have l4 : b.hi.data.toList.length = b.hi.size := by simp
  by_cases hs : a.lo.size = b.lo.size
  · rw [decide_eq_true (show b.lo.size = a.lo.size by omega), decide_eq_true (show b.hi.size = a.lo.size by omega), decide_eq_true (show a.lo.size = b.lo.size by omega), decide_eq_true (show a.hi.size = b.lo.size by omega)]
    rw [cmpC_same (show a.hi.data.toList.length = a.lo.data.toList.length by omega)] at a4
    rw [cmpC_same (show b.hi.data.toList.length = b.lo.data.toList.length by omega)] at b4
    rw [cmpC_same (show a.lo.data.toList.length = b.lo.data.toList.length by omega), cmpC_same (show b.lo.data.toList.length = a.hi.data.toList.length by omega), cmpC_same (show a.lo.data.toList.length = b.hi.data.toList.length by omega),
      cmpC_same (show b.hi.data.toList.length = a.hi.data.toList.length by omega), cmpC_same (show b.lo.data.toList.length = a.lo.data.toList.length by omega), cmpC_same (show a.hi.data.toList.length = b.hi.data.toList.length by omega),
      cmpC_same (show b.hi.data.toList.length = a.lo.data.toList.length by omega), cmpC_same (show a.hi.data.toList.length = b.lo.data.toList.length by omega)]
    obtain ⟨A, hA⟩ : ∃ A, a.lo.data.toList = A := ⟨_, rfl⟩
    obtain ⟨A', hA'⟩ : ∃ A, a.hi.data.toList = A := ⟨_, rfl⟩
    obtain ⟨C, hC⟩ : ∃ A, b.lo.data.toList = A := ⟨_, rfl⟩
    obtain ⟨C', hC'⟩ : ∃ A, b.hi.data.toList = A := ⟨_, rfl⟩
    rw [hA, hA'] at a4
    rw [hC, hC'] at b4
    rw [hA, hA', hC, hC']
    have n1 := cmpB_neg A C
    have n2 := cmpB_neg A' C
    have n3 := cmpB_neg A C'
    have n4 := cmpB_neg A' C'
    have n5 := cmpB_neg A A'
    have n6 := cmpB_neg C C'
    have t1 := cmpB_trans A C C'
    have t2 := cmpB_trans C A A'
    have t3 := cmpB_trans A A' C
    have t4 := cmpB_trans C C' A
    have t5 := cmpB_trans C C' A'
    have t6 := cmpB_trans A A' C'
    rw [Bool.eq_iff_iff]
    simp only [Bool.or_eq_true, Bool.and_eq_true, decide_eq_true_eq, Bool.not_eq_true', Bool.or_eq_false_iff, decide_eq_false_iff_not, true_and]
    omega
  · rw [decide_eq_false (show ¬ b.lo.size = a.lo.size by omega), decide_eq_false (show ¬ b.hi.size = a.lo.size by omega), decide_eq_false (show ¬ a.lo.size = b.lo.size by omega), decide_eq_false (show ¬ a.hi.size = b.lo.size by omega)]
    have hap : (decide (cmpC b.hi.data.toList a.lo.data.toList < 0) || decide (cmpC a.hi.data.toList b.lo.data.toList < 0)) = true := by
      by_cases hlt : a.lo.size < b.lo.size
      · have : cmpC a.hi.data.toList b.lo.data.toList = -1 := by unfold cmpC; rw [if_pos (by omega)]
        rw [this]; simp
      · have : cmpC b.hi.data.toList a.lo.data.toList = -1 := by unfold cmpC; rw [if_pos (by omega)]
        rw [this]; simp
    rw [hap]
    rfl

theorem tab_two (a b : RG) (ha : chkN a = 0) : tabN [a, b] 0 = some [] ∧ tabN [a, b] 1 = some [a] ∧ errA [] a = 0 := by
  have h0 : errA [] a = 0 := by unfold errA; rw [ha]; rfl
  refine ⟨rfl, ?_, h0⟩
  rw [show (1 : Nat) = 0 + 1 from rfl, tabN, tabN]
  dsimp only
  rw [dif_pos (show 0 < [a, b].length by simp)]
  show (if errA [] a = 0 then _ else _) = _
  rw [if_pos h0]
  rfl
theorem err_two (a b : RG) (hb : chkN b = 0) : errA [a] b = if apartB b a = true then 0 else 17 := by
  unfold errA
  rw [hb]
  simp only [ne_eq, not_true_eq_false, if_false, List.all_cons, List.all_nil, Bool.and_true, List.length_singleton]
  rw [if_neg (by decide)]
  cases apartB b a <;> rfl
theorem stands_two (a b : RG) (ha : chkN a = 0) : ∀ i t (h : i < [a, b].length), tabN [a, b] i = some t → Stands t ([a, b][i]).lo (plc t [a, b][i]) := by
  intro i t h ht
  match i, h, ht with
  | 0, _, ht =>
    rw [(tab_two a b ha).1] at ht
    injection ht with ht
    subst ht
    exact ⟨Nat.zero_le _, fun i h => absurd h (by simp)⟩
  | 1, _, ht =>
    rw [(tab_two a b ha).2.1] at ht
    injection ht with ht
    subst ht
    show Stands [a] b.lo (plc [a] b)
    unfold plc
    by_cases hc : ck b.lo a < 0
    · rw [List.takeWhile_cons, decide_eq_true hc]
      exact ⟨by simp, fun i h => by
        have : i = 0 := by simpa using h
        subst this
        simpa using hc⟩
    · rw [List.takeWhile_cons, decide_eq_false hc]
      exact ⟨by simp, fun i h => by
        have : i = 0 := by simpa using h
        subst this
        simpa using hc⟩
end Go.Proofs.YtcimcnlonepbcaaGreatDoor
