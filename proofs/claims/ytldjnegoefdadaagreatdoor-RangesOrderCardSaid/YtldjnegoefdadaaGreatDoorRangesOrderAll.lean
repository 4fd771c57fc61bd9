/- The statement of RangesOrder: whatever comes in, the law answers true, and what came in reads as it did. (In one text with what it leans on: RangesCheckW, RMeet, RGood, RFind, RDel, RDrop, ROrd, RRot, REqS, RSame, RangesOrderW, RangesOrder.) -/
import Derived.Laws.StructEq
import Derived.BigQuiet
import Derived.WalkKit
import Derived.ProofKit
import Derived.OpenShut
import Derived.ShutString
import Derived.SizedLaws
import Derived.LaidMore
import Derived.Lay
import Derived.Stop.Joined
import Derived.SevenTiedAt
import Derived.Deep.DeepHandedRow
import Derived.Test.YtldjnegoefdadaaGreatDoorRHas
import Derived.Test.YtldjnegoefdadaaGreatDoorROpen
import Derived.Test.YtldjnegoefdadaaGreatDoorQuietL
import Derived.Test.YtldjnegoefdadaaGreatDoorRNew
import Derived.Test.YtldjnegoefdadaaGreatDoorRAdd
import Derived.Test.YtldjnegoefdadaaGreatDoorRIns
import Derived.Test.YtldjnegoefdadaaGreatDoorRNewB
import Derived.Test.YtldjnegoefdadaaGreatDoorRClone
import Derived.Test.YtldjnegoefdadaaGreatDoorRCome
import Derived.Test.YtldjnegoefdadaaGreatDoorRows
import Derived.Test.YtldjnegoefdadaaGreatDoorCards
import Derived.Test.YtldjnegoefdadaaGreatDoorTie
import Derived.Test.YtldjnegoefdadaaGreatDoorVLaid
namespace Go.Proofs.YtldjnegoefdadaaGreatDoor
open Go.RowKit
set_option linter.unusedVariables false

theorem chk_zero (r : RG) (h : chkN r = 0) : isD r.lo = true ∧ isD r.hi = true ∧ r.lo.size = r.hi.size := by
  unfold chkN at h
  by_cases hb : (numB r.lo && numB r.hi && decide (r.lo.size = r.hi.size)) = false
  · rw [if_pos hb] at h
    cases h
  · rw [Bool.not_eq_false] at hb
    simp only [Bool.and_eq_true, decide_eq_true_eq] at hb
    obtain ⟨⟨h1, h2⟩, h3⟩ := hb
    unfold numB at h1 h2
    simp only [Bool.and_eq_true] at h1 h2
    exact ⟨h1.1.1, h2.1.1, h3⟩

end Go.Proofs.YtldjnegoefdadaaGreatDoor

namespace Go.Proofs.YtldjnegoefdadaaGreatDoor
open Go.RowKit
set_option linter.unusedVariables false

theorem cmpB_trans : ∀ a b c : List UInt8, Lib.compareBytes a b ≤ 0 → Lib.compareBytes b c ≤ 0 → Lib.compareBytes a c ≤ 0
  | [], _, [], _, _ => by decide
  | [], _, _ :: _, _, _ => by simp [Lib.compareBytes]
  | _ :: _, [], _, h, _ => by simp [Lib.compareBytes] at h
  | _ :: _, _ :: _, [], _, h => by simp [Lib.compareBytes] at h
  | x :: a, y :: b, z :: c, h1, h2 => by
    have ih := cmpB_trans a b c
    rw [cmpB_cons] at h1 h2 ⊢
    by_cases k1 : x < z
    · rw [if_pos k1]; decide
    · rw [if_neg k1]
      have k2 : ¬ z < x := by
        intro k2
        rw [UInt8.lt_iff_toNat_lt] at k1 k2
        by_cases m1 : x < y
        · rw [UInt8.lt_iff_toNat_lt] at m1
          have m2 : z < y := by rw [UInt8.lt_iff_toNat_lt]; omega
          have m3 : ¬ y < z := by rw [UInt8.lt_iff_toNat_lt] at m2 ⊢; omega
          rw [if_neg m3, if_pos m2] at h2
          exact absurd h2 (by decide)
        · rw [if_neg m1] at h1
          by_cases m4 : y < x
          · rw [if_pos m4] at h1
            exact absurd h1 (by decide)
          · rw [UInt8.lt_iff_toNat_lt] at m1 m4
            have m2 : z < y := by rw [UInt8.lt_iff_toNat_lt]; omega
            have m3 : ¬ y < z := by rw [UInt8.lt_iff_toNat_lt] at m2 ⊢; omega
            rw [if_neg m3, if_pos m2] at h2
            exact absurd h2 (by decide)
      rw [if_neg k2]
      have hxz : x.toNat = z.toNat := by rw [UInt8.lt_iff_toNat_lt] at k1 k2; omega
      have hxy : ¬ x < y ∧ ¬ y < x := by
        constructor
        · intro m1
          have m2 : z < y := by rw [UInt8.lt_iff_toNat_lt] at m1 ⊢; omega
          have m3 : ¬ y < z := by rw [UInt8.lt_iff_toNat_lt] at m2 ⊢; omega
          rw [if_neg m3, if_pos m2] at h2
          exact absurd h2 (by decide)
        · intro m1
          have m3 : ¬ x < y := by rw [UInt8.lt_iff_toNat_lt] at m1 ⊢; omega
          rw [if_neg m3, if_pos m1] at h1
          exact absurd h1 (by decide)
      rw [if_neg hxy.1, if_neg hxy.2] at h1
      have hyz : ¬ y < z ∧ ¬ z < y := by
        have e1 := hxy.1
        have e2 := hxy.2
        rw [UInt8.lt_iff_toNat_lt] at e1 e2
        constructor <;> (rw [UInt8.lt_iff_toNat_lt]; omega)
      rw [if_neg hyz.1, if_neg hyz.2] at h2
      exact ih h1 h2
theorem cmpC_same {a b : List UInt8} (h : a.length = b.length) : cmpC a b = Lib.compareBytes a b := by unfold cmpC; rw [if_neg (by omega), if_neg (by omega)]

theorem chk_zero2 (r : RG) (h : chkN r = 0) : ¬ cmpC r.hi.data.toList r.lo.data.toList < 0 := by
  obtain ⟨h1, h2, h3⟩ := chk_zero r h
  intro hc
  unfold chkN at h
  by_cases hb : (numB r.lo && numB r.hi && decide (r.lo.size = r.hi.size)) = false
  · rw [if_pos hb] at h; cases h
  · rw [if_neg hb, if_pos hc] at h; cases h

theorem meets (a b : RG) (ha : chkN a = 0) (hb : chkN b = 0) : (hasB a b.lo || hasB a b.hi || hasB b a.lo || hasB b a.hi) = !apartB b a := by
  obtain ⟨a1, a2, a3⟩ := chk_zero a ha
  obtain ⟨b1, b2, b3⟩ := chk_zero b hb
  have a4 := chk_zero2 a ha
  have b4 := chk_zero2 b hb
  unfold hasB apartB
  rw [a1, a2, b1, b2]
  have l1 : a.lo.data.toList.length = a.lo.size := by simp
  have l2 : a.hi.data.toList.length = a.hi.size := by simp
  have l3 : b.lo.data.toList.length = b.lo.size := by simp
  have l4 : b.hi.data.toList.length = b.hi.size := by simp
  by_cases hs : a.lo.size = b.lo.size
  · rw [decide_eq_true (show b.lo.size = a.lo.size by omega), decide_eq_true (show b.hi.size = a.lo.size by omega), decide_eq_true (show a.lo.size = b.lo.size by omega), decide_eq_true (show a.hi.size = b.lo.size by omega)]
    rw [cmpC_same (show a.hi.data.toList.length = a.lo.data.toList.length by omega)] at a4
    rw [cmpC_same (show b.hi.data.toList.length = b.lo.data.toList.length by omega)] at b4
    rw [cmpC_same (show a.lo.data.toList.length = b.lo.data.toList.length by omega), cmpC_same (show b.lo.data.toList.length = a.hi.data.toList.length by omega), cmpC_same (show a.lo.data.toList.length = b.hi.data.toList.length by omega),
      cmpC_same (show b.hi.data.toList.length = a.hi.data.toList.length by omega), cmpC_same (show b.lo.data.toList.length = a.lo.data.toList.length by omega), cmpC_same (show a.hi.data.toList.length = b.hi.data.toList.length by omega),
      cmpC_same (show b.hi.data.toList.length = a.lo.data.toList.length by omega), cmpC_same (show a.hi.data.toList.length = b.lo.data.toList.length by omega)]
    obtain ⟨A, hA⟩ : ∃ A, a.lo.data.toList = A := ⟨_, rfl⟩
    obtain ⟨A', hA'⟩ : ∃ A, a.hi.data.toList = A := ⟨_, rfl⟩
    obtain ⟨C, hC⟩ : ∃ A, b.lo.data.toList = A := ⟨_, rfl⟩
    obtain ⟨C', hC'⟩ : ∃ A, b.hi.data.toList = A := ⟨_, rfl⟩
    rw [hA, hA'] at a4
    rw [hC, hC'] at b4
    rw [hA, hA', hC, hC']
    have n1 := cmpB_neg A C
    have n2 := cmpB_neg A' C
    have n3 := cmpB_neg A C'
    have n4 := cmpB_neg A' C'
    have n5 := cmpB_neg A A'
    have n6 := cmpB_neg C C'
    have t1 := cmpB_trans A C C'
    have t2 := cmpB_trans C A A'
    have t3 := cmpB_trans A A' C
    have t4 := cmpB_trans C C' A
    have t5 := cmpB_trans C C' A'
    have t6 := cmpB_trans A A' C'
    rw [Bool.eq_iff_iff]
    simp only [Bool.or_eq_true, Bool.and_eq_true, decide_eq_true_eq, Bool.not_eq_true', Bool.or_eq_false_iff, decide_eq_false_iff_not, true_and]
    omega
  · rw [decide_eq_false (show ¬ b.lo.size = a.lo.size by omega), decide_eq_false (show ¬ b.hi.size = a.lo.size by omega), decide_eq_false (show ¬ a.lo.size = b.lo.size by omega), decide_eq_false (show ¬ a.hi.size = b.lo.size by omega)]
    have hap : (decide (cmpC b.hi.data.toList a.lo.data.toList < 0) || decide (cmpC a.hi.data.toList b.lo.data.toList < 0)) = true := by
      by_cases hlt : a.lo.size < b.lo.size
      · have : cmpC a.hi.data.toList b.lo.data.toList = -1 := by unfold cmpC; rw [if_pos (by omega)]
        rw [this]; simp
      · have : cmpC b.hi.data.toList a.lo.data.toList = -1 := by unfold cmpC; rw [if_pos (by omega)]
        rw [this]; simp
    rw [hap]
    rfl

theorem tab_two (a b : RG) (ha : chkN a = 0) : tabN [a, b] 0 = some [] ∧ tabN [a, b] 1 = some [a] ∧ errA [] a = 0 := by
  have h0 : errA [] a = 0 := by unfold errA; rw [ha]; rfl
  refine ⟨rfl, ?_, h0⟩
  rw [show (1 : Nat) = 0 + 1 from rfl, tabN, tabN]
  dsimp only
  rw [dif_pos (show 0 < [a, b].length by simp)]
  show (if errA [] a = 0 then _ else _) = _
  rw [if_pos h0]
  rfl
theorem err_two (a b : RG) (hb : chkN b = 0) : errA [a] b = if apartB b a = true then 0 else 17 := by
  unfold errA
  rw [hb]
  simp only [ne_eq, not_true_eq_false, if_false, List.all_cons, List.all_nil, Bool.and_true, List.length_singleton]
  rw [if_neg (by decide)]
  cases apartB b a <;> rfl
theorem stands_two (a b : RG) (ha : chkN a = 0) : ∀ i t (h : i < [a, b].length), tabN [a, b] i = some t → Stands t ([a, b][i]).lo (plc t [a, b][i]) := by
  intro i t h ht
  match i, h, ht with
  | 0, _, ht =>
    rw [(tab_two a b ha).1] at ht
    injection ht with ht
    subst ht
    exact ⟨Nat.zero_le _, fun i h => absurd h (by simp)⟩
  | 1, _, ht =>
    rw [(tab_two a b ha).2.1] at ht
    injection ht with ht
    subst ht
    show Stands [a] b.lo (plc [a] b)
    unfold plc
    by_cases hc : ck b.lo a < 0
    · rw [List.takeWhile_cons, decide_eq_true hc]
      exact ⟨by simp, fun i h => by
        have : i = 0 := by simpa using h
        subst this
        simpa using hc⟩
    · rw [List.takeWhile_cons, decide_eq_false hc]
      exact ⟨by simp, fun i h => by
        have : i = 0 := by simpa using h
        subst this
        simpa using hc⟩
end Go.Proofs.YtldjnegoefdadaaGreatDoor

namespace Go.Proofs.YtldjnegoefdadaaGreatDoor
open Go.RowKit
set_option linter.unusedVariables false

theorem cmpC_neg (a b : List UInt8) : cmpC a b = - cmpC b a := by
  unfold cmpC
  by_cases h1 : a.length < b.length
  · rw [if_pos h1, if_neg (by omega), if_pos h1]
  · rw [if_neg h1]
    by_cases h2 : b.length < a.length
    · rw [if_pos h2, if_pos h2]; rfl
    · rw [if_neg h2, if_neg h2, if_neg h1]; exact cmpB_neg a b
theorem cmpC_eq (a b : List UInt8) : cmpC a b = 0 ↔ a = b := by
  unfold cmpC
  by_cases h1 : a.length < b.length
  · rw [if_pos h1]
    constructor
    · intro h; cases h
    · intro h; rw [h] at h1; omega
  · rw [if_neg h1]
    by_cases h2 : b.length < a.length
    · rw [if_pos h2]
      constructor
      · intro h; cases h
      · intro h; rw [h] at h2; omega
    · rw [if_neg h2]; exact cmpB_eq a b
theorem cmpC_trans (a b c : List UInt8) (h1 : cmpC a b ≤ 0) (h2 : cmpC b c ≤ 0) : cmpC a c ≤ 0 := by
  unfold cmpC at h1 h2 ⊢
  by_cases k1 : a.length < c.length
  · rw [if_pos k1]; decide
  · rw [if_neg k1]
    by_cases k2 : b.length < a.length
    · rw [if_neg (by omega), if_pos k2] at h1
      exact absurd h1 (by decide)
    · by_cases k3 : c.length < b.length
      · rw [if_neg (by omega), if_pos k3] at h2
        exact absurd h2 (by decide)
      · rw [if_neg (by omega)]
        rw [if_neg (by omega), if_neg k2] at h1
        rw [if_neg (by omega), if_neg k3] at h2
        exact cmpB_trans a b c h1 h2
theorem cmpC_lt_le {a b c : List UInt8} (h1 : cmpC a b < 0) (h2 : cmpC b c ≤ 0) : cmpC a c < 0 := by
  have h3 := cmpC_trans a b c (by omega) h2
  have h4 : cmpC a c ≠ 0 := fun h => by
    rw [(cmpC_eq a c).1 h, cmpC_neg] at h1
    omega
  omega
theorem cmpC_le_lt {a b c : List UInt8} (h1 : cmpC a b ≤ 0) (h2 : cmpC b c < 0) : cmpC a c < 0 := by
  have h3 := cmpC_trans a b c h1 (by omega)
  have h4 : cmpC a c ≠ 0 := fun h => by
    rw [← (cmpC_eq a c).1 h, cmpC_neg] at h2
    omega
  omega

def Good (t : List RG) : Prop := (∀ x ∈ t, chkN x = 0) ∧ t.Pairwise (fun a b => cmpC a.hi.data.toList b.lo.data.toList < 0)
theorem chk_le (r : RG) (h : chkN r = 0) : cmpC r.lo.data.toList r.hi.data.toList ≤ 0 := by
  have := chk_zero2 r h
  rw [cmpC_neg]
  omega
theorem takeWhile_at {α : Type} (P : α → Bool) : ∀ (t : List α), t.Pairwise (fun a b => P b = true → P a = true) → ∀ i (h : i < t.length), i < (t.takeWhile P).length ↔ P t[i] = true
  | [], _, i, h => by cases h
  | x :: t, hp, i, h => by
    obtain ⟨h1, h2⟩ := List.pairwise_cons.1 hp
    by_cases hx : P x = true
    · rw [List.takeWhile_cons, if_pos hx]
      cases i with
      | zero => simp [hx]
      | succ i =>
        have := takeWhile_at P t h2 i (by simpa using h)
        simpa using this
    · rw [List.takeWhile_cons, if_neg hx]
      cases i with
      | zero => simp [hx]
      | succ i =>
        have hit : i < t.length := by simpa using h
        have hni : P t[i] = true → False := fun h3 => hx (h1 _ (List.getElem_mem _) h3)
        simp
        simpa using hni
theorem good_stands {t : List RG} (hg : Good t) (r : RG) : Stands t r.lo (plc t r) := by
  have hp : t.Pairwise (fun a b => decide (ck r.lo b < 0) = true → decide (ck r.lo a < 0) = true) := by
    refine hg.2.imp_of_mem (fun {a b} ha hb h h2 => ?_)
    have h3 := of_decide_eq_true h2
    refine decide_eq_true ?_
    unfold ck at h3 ⊢
    have h4 := cmpC_le_lt (chk_le a (hg.1 a ha)) h
    exact cmpC_lt_le h4 (by omega)
  refine ⟨?_, fun i h => ?_⟩
  · unfold plc
    exact (List.takeWhile_sublist _).length_le
  · have := takeWhile_at (fun x => decide (ck r.lo x < 0)) t hp i h
    unfold plc
    rw [this, decide_eq_true_eq]
theorem errA_zero {t : List RG} {r : RG} (h : errA t r = 0) : chkN r = 0 ∧ t.length < 64 ∧ ∀ x ∈ t, apartB r x = true := by
  unfold errA at h
  by_cases h1 : chkN r ≠ 0
  · rw [if_pos h1] at h; exact absurd h h1
  · rw [if_neg h1] at h
    by_cases h2 : 64 ≤ t.length
    · rw [if_pos h2] at h; cases h
    · rw [if_neg h2] at h
      by_cases h3 : t.all (apartB r) = false
      · rw [if_pos h3] at h; cases h
      · rw [Bool.not_eq_false, List.all_eq_true] at h3
        exact ⟨by omega, by omega, h3⟩
theorem good_ins {t : List RG} (hg : Good t) {r : RG} (h : errA t r = 0) : Good (insL t (plc t r) r) := by
  obtain ⟨hr, _, hap⟩ := errA_zero h
  have hst := good_stands hg r
  have hrl := chk_le r hr
  have hbefore : ∀ x ∈ t.take (plc t r), cmpC x.hi.data.toList r.lo.data.toList < 0 := fun x hx => by
    obtain ⟨i, hi, rfl⟩ := List.getElem_of_mem hx
    rw [List.length_take] at hi
    rw [List.getElem_take]
    have h1 := (hst.2 i (by omega)).1 (by omega)
    unfold ck at h1
    have h2 := hap t[i] (List.getElem_mem _)
    unfold apartB at h2
    rw [Bool.or_eq_true, decide_eq_true_eq, decide_eq_true_eq] at h2
    rcases h2 with h2 | h2
    · have h3 := cmpC_lt_le h1 hrl
      rw [cmpC_neg] at h3
      omega
    · exact h2
  have hafter : ∀ x ∈ t.drop (plc t r), cmpC r.hi.data.toList x.lo.data.toList < 0 := fun x hx => by
    obtain ⟨i, hi, rfl⟩ := List.getElem_of_mem hx
    rw [List.length_drop] at hi
    rw [List.getElem_drop]
    have h1 : ¬ ck r.lo t[plc t r + i] < 0 := fun h1 => by
      have := (hst.2 (plc t r + i) (by omega)).2 h1
      omega
    unfold ck at h1
    have h2 := hap t[plc t r + i] (List.getElem_mem _)
    have h4 := chk_le _ (hg.1 t[plc t r + i] (List.getElem_mem _))
    unfold apartB at h2
    rw [Bool.or_eq_true, decide_eq_true_eq, decide_eq_true_eq] at h2
    rcases h2 with h2 | h2
    · exact h2
    · have h3 := cmpC_le_lt h4 h2
      omega
  refine ⟨fun x hx => ?_, ?_⟩
  · unfold insL at hx
    rcases List.mem_append.1 hx with hx | hx
    · exact hg.1 x (List.mem_of_mem_take hx)
    · rcases List.mem_cons.1 hx with rfl | hx
      · exact hr
      · exact hg.1 x (List.mem_of_mem_drop hx)
  · unfold insL
    rw [List.pairwise_append]
    refine ⟨hg.2.sublist (List.take_sublist _ _), ?_, ?_⟩
    · rw [List.pairwise_cons]
      exact ⟨hafter, hg.2.sublist (List.drop_sublist _ _)⟩
    · intro x hx y hy
      have h1 := hbefore x hx
      rcases List.mem_cons.1 hy with rfl | hy
      · exact h1
      · have h2 := hafter y hy
        exact cmpC_lt_le h1 (by have := cmpC_le_lt hrl h2; omega)
theorem tab_good (L : List RG) : ∀ i t, tabN L i = some t → Good t
  | 0, t, h => by
    injection h with h
    subst h
    exact ⟨(fun x hx => by cases hx), List.Pairwise.nil⟩
  | i + 1, t, h => by
    rw [tabN] at h
    cases h1 : tabN L i with
    | none => rw [h1] at h; cases h
    | some u =>
      rw [h1] at h
      dsimp only at h
      by_cases h2 : i < L.length
      · rw [dif_pos h2] at h
        by_cases h3 : errA u L[i] = 0
        · rw [if_pos h3] at h
          injection h with h
          subst h
          exact good_ins (tab_good L i u h1) h3
        · rw [if_neg h3] at h; cases h
      · rw [dif_neg h2] at h; cases h
theorem tab_stands (L : List RG) : ∀ i t (h : i < L.length), tabN L i = some t → Stands t L[i].lo (plc t L[i]) := fun i t h ht => good_stands (tab_good L i t ht) L[i]
end Go.Proofs.YtldjnegoefdadaaGreatDoor

namespace Go.Proofs.YtldjnegoefdadaaGreatDoor
open Go.RowKit Go.Shelf
set_option linter.unusedVariables false
set_option linter.unusedSimpArgs false
attribute [local go_sem] Oper.semAt_some

/-- What a round finds and leaves. -/
def FI (b : Nat) (s : Value) (l : List RG) (k : ByteArray) (w : World) (pre : List (Kx l)) (W : World) : Prop :=
  (∀ x ∈ pre, hasB x.1.1 k = false) ∧ (Row W b 27 [s] ∧ Row W (b + 1) 9 [.string k]) ∧ (Row W (b + 2) 30 [.string ⟨#[]⟩, .string ⟨#[]⟩, .string ⟨#[]⟩, .string ⟨#[]⟩, .string ⟨#[]⟩, .int .i64 0] ∧ Row W (b + 3) 4 [.bool false]) ∧ Below b w W
def FX (b : Nat) (l : List RG) (k : ByteArray) (w : World) (c : Code) (pre : List (Kx l)) (W : World) : Prop :=
  (c = Code.ret ∧ ∃ q x, pre = q ++ [x] ∧ (∀ y ∈ q, hasB y.1.1 k = false) ∧ hasB x.1.1 k = true ∧ Row W (b + 2) 30 x.1.1.cells) ∧ Row W (b + 3) 4 [.bool true] ∧ Below b w W
theorem FI_own (b : Nat) (s : Value) (l : List RG) (k : ByteArray) (w : World) (B : Nat) (hb : b ≤ w.heap.size) (hbw : b ≤ B) : OwnFrom B (FI b s l k w) :=
  OwnFrom.and own_pure_r (OwnFrom.and (OwnFrom.and (Own.from (own_row_v b _ (fun _ => [s])) _) (Own.from (own_row_v (b + 1) _ (fun _ => [Value.string k])) _))
    (OwnFrom.and (OwnFrom.and (Own.from (own_row_v (b + 2) _ (fun _ => [.string ⟨#[]⟩, .string ⟨#[]⟩, .string ⟨#[]⟩, .string ⟨#[]⟩, .string ⟨#[]⟩, .int .i64 0])) _) (Own.from (own_row_v (b + 3) _ (fun _ => [Value.bool false])) _)) (ownFrom_below hb hbw)))
theorem FX_own (b : Nat) (l : List RG) (k : ByteArray) (w : World) (c : Code) (B : Nat) (hb : b ≤ w.heap.size) (hbw : b ≤ B) : OwnFrom B (FX b l k w c) :=
  OwnFrom.and (fun s X Y row h hg hr => by
    obtain ⟨rfl, q, x, h1, h2, h3, h4⟩ := h
    exact ⟨rfl, q, x, h1, h2, h3, Own.from (own_row_v (β := Unit) (b + 2) 30 (fun _ => x.1.1.cells)) B () X Y row h4 hg hr⟩)
    (OwnFrom.and (Own.from (own_row_v (b + 3) _ (fun _ => [Value.bool true])) _) (ownFrom_below hb hbw))
theorem FI.below {b : Nat} {s : Value} {l : List RG} {k : ByteArray} {w W W' : World} {pre : List (Kx l)} (h : FI b s l k w pre W) (hb : Below W.heap.size W W') : FI b s l k w pre W' :=
  ⟨h.1, ⟨h.2.1.1.below hb h.2.1.1.lt, h.2.1.2.below hb h.2.1.2.lt⟩, ⟨h.2.2.1.1.below hb h.2.2.1.1.lt, h.2.2.1.2.below hb h.2.2.1.2.lt⟩, h.2.2.2.trans (hb.mono (Nat.le_of_lt h.2.1.1.lt))⟩
theorem results_find {fn : Func} {p q : Tmp} (h : fn.results = #[.cell p 30, .cell q 4]) (tmps : Array Value) (w : World) (g k : Nat) (r : RG) (e : Bool) (hp : tmps.getD p undef = .pointer (some ⟨g, 0, none⟩)) (hq : tmps.getD q undef = .pointer (some ⟨k, 0, none⟩))
    (hg : Row w g 30 r.cells) (hk : Row w k 4 [.bool e]) : (results fn tmps).run Tryz.prog w = .ok (.tuple #[.agg r.cells.toArray, .bool e]) w := by
  have hp' : tmps[p]?.getD undef = .pointer (some ⟨g, 0, none⟩) := by simpa using hp
  have hq' : tmps[q]?.getD undef = .pointer (some ⟨k, 0, none⟩) := by simpa using hq
  have h1 := run_loadVar_row (P := Tryz.prog) w g 30 30 r.cells.toArray (0, 0) _ hg Tryz.underlying30 rfl (by kernel_rfl)
  have h2 : (loadVar 4 ⟨k, 0, none⟩).run Tryz.prog w = .ok (.bool e) w := by
    have hc := hk.cell 0
    simp only [List.getElem?_cons_zero] at hc
    simp [loadVar, go_sem, hc]
  simp [results, h, hp', hq', asAddr, h1, h2, Result.andThen]

theorem find_put {b : Nat} {w W : World} {l0 : List Value} (x : RG) (e : Bool) (hl0 : l0.length = 6) (h2 : Row W (b + 2) 30 l0) (h3 : ∃ v, Row W (b + 3) 4 [v]) (hB : Below b w W) :
    Row (((((((W.setCell ⟨b + 2, 0, none⟩ (.string x.lo)).setCell ⟨b + 2, 1, none⟩ (.string x.hi)).setCell ⟨b + 2, 2, none⟩ (.string x.acs)).setCell ⟨b + 2, 3, none⟩ (.string x.low)).setCell ⟨b + 2, 4, none⟩ (.string x.high)).setCell ⟨b + 2, 5, none⟩ (.int .i64 x.mode)).setCell ⟨b + 3, 0, none⟩ (.bool e)) (b + 2) 30 x.cells ∧
    Row (((((((W.setCell ⟨b + 2, 0, none⟩ (.string x.lo)).setCell ⟨b + 2, 1, none⟩ (.string x.hi)).setCell ⟨b + 2, 2, none⟩ (.string x.acs)).setCell ⟨b + 2, 3, none⟩ (.string x.low)).setCell ⟨b + 2, 4, none⟩ (.string x.high)).setCell ⟨b + 2, 5, none⟩ (.int .i64 x.mode)).setCell ⟨b + 3, 0, none⟩ (.bool e)) (b + 3) 4 [.bool e] ∧
    Below b w (((((((W.setCell ⟨b + 2, 0, none⟩ (.string x.lo)).setCell ⟨b + 2, 1, none⟩ (.string x.hi)).setCell ⟨b + 2, 2, none⟩ (.string x.acs)).setCell ⟨b + 2, 3, none⟩ (.string x.low)).setCell ⟨b + 2, 4, none⟩ (.string x.high)).setCell ⟨b + 2, 5, none⟩ (.int .i64 x.mode)).setCell ⟨b + 3, 0, none⟩ (.bool e)) := by
  obtain ⟨v, h3⟩ := h3
  have hne : b + 3 ≠ b + 2 := by omega
  have hle : b ≤ b + 2 := by omega
  refine ⟨?_, ?_, ?_⟩
  · have h := ((((((h2.set 0 (.string x.lo)).set 1 (.string x.hi)).set 2 (.string x.acs)).set 3 (.string x.low)).set 4 (.string x.high)).set 5 (.int .i64 x.mode)).far (p := ⟨b + 3, 0, none⟩) (by show b + 2 ≠ b + 3; omega) (.bool e)
    match l0, hl0 with
    | [_, _, _, _, _, _], _ => exact h
  · exact ((((((h3.far (p := ⟨b + 2, 0, none⟩) hne _).far (p := ⟨b + 2, 1, none⟩) hne _).far (p := ⟨b + 2, 2, none⟩) hne _).far (p := ⟨b + 2, 3, none⟩) hne _).far (p := ⟨b + 2, 4, none⟩) hne _).far (p := ⟨b + 2, 5, none⟩) hne _).set 0 (.bool e)
  · exact ((((((hB.setCell (p := ⟨b + 2, 0, none⟩) hle _).setCell (p := ⟨b + 2, 1, none⟩) hle _).setCell (p := ⟨b + 2, 2, none⟩) hle _).setCell (p := ⟨b + 2, 3, none⟩) hle _).setCell (p := ⟨b + 2, 4, none⟩) hle _).setCell (p := ⟨b + 2, 5, none⟩) hle _).setCell (p := ⟨b + 3, 0, none⟩) (by show b ≤ b + 3; omega) _

/-- The first range that has the card. -/
def findL (l : List RG) (k : ByteArray) : Option RG := l.find? fun r => hasB r k
def zRG : RG := ⟨⟨#[]⟩, ⟨#[]⟩, ⟨#[]⟩, ⟨#[]⟩, ⟨#[]⟩, 0⟩
/-- How Find ends. -/
def FindPost (l : List RG) (k : ByteArray) (w : World) (e : Ending) (w' : World) : Prop :=
  Below w.heap.size w w' ∧ e = .returned (.tuple #[.agg ((findL l k).getD zRG).cells.toArray, .bool (findL l k).isSome])

theorem find_of_pre {l : List RG} {k : ByteArray} {q : List (Kx l)} {x : Kx l} (hp : (q ++ [x]).map Subtype.val <+: l.zipIdx) (hq : ∀ y ∈ q, hasB y.1.1 k = false) (hx : hasB x.1.1 k = true) : findL l k = some x.1.1 := by
  unfold findL
  have h1 : l = l.zipIdx.map (·.1) := by simp
  obtain ⟨t, ht⟩ := hp
  have h3 : l.find? (fun r => hasB r k) = (l.zipIdx.map (·.1)).find? (fun r => hasB r k) := congrArg _ h1
  rw [h3, ← ht, List.map_append, List.map_append, List.map_append, List.append_assoc, List.find?_append]
  have h2 : List.find? (fun r => hasB r k) (List.map (fun x => x.1) (List.map Subtype.val q)) = none := by
    rw [List.find?_eq_none]
    intro r hr
    obtain ⟨y, hy, rfl⟩ := List.mem_map.1 hr
    obtain ⟨z, hz, rfl⟩ := List.mem_map.1 hy
    rw [hq z hz]; decide
  rw [h2]
  simp [hx]
theorem find_none {l : List RG} {k : ByteArray} {ys : List (Kx l)} (hp : ys.map Subtype.val = l.zipIdx) (hq : ∀ y ∈ ys, hasB y.1.1 k = false) : findL l k = none := by
  unfold findL
  rw [List.find?_eq_none]
  intro r hr
  have h1 : l = l.zipIdx.map (·.1) := by simp
  rw [h1, ← hp] at hr
  obtain ⟨y, hy, rfl⟩ := List.mem_map.1 hr
  obtain ⟨z, hz, rfl⟩ := List.mem_map.1 hy
  rw [hq z hz]; decide

set_option maxRecDepth 100000 in
set_option maxHeartbeats 4000000 in
theorem Find_any (l : List RG) (hl : ∀ r ∈ l, r.light) (h64 : l.length ≤ 64) (k : ByteArray) (hk : k.size ≤ 1000) (s : Value) (w : World) (hT : TBL w s l) :
    Calls Tryz.prog 17 #[.agg #[s], .string k] w (FindPost l k w) := by
  obtain ⟨a, cap, rfl⟩ := hT.slice
  have HAll := Lib.hid (fun W => TAll_any a l.length cap W)
  have HT := Lib.hid hT
  clear hT
  refine (callsIn_wide (n := 6)).1 ?_
  refine callsIn_of_wp_marks Tryz.func17 rfl trivial ?_ rfl
  simp only [Tryz.ntmps17, List.size_toArray, List.length_cons, List.length_nil, Nat.reduceAdd, Nat.reduceSub, Array.replicate_succ, Array.replicate_zero, List.push_toArray, List.append_toArray, List.nil_append, List.cons_append]
  rw [wpIn_wide]
  obtain ⟨b, hb⟩ : ∃ b, w.heap.size = b := ⟨_, rfl⟩
  have HB := Lib.hid hb
  go_wp2_with fail
  obtain ⟨W0, hW0⟩ : ∃ W, (((w.alloc (.cells #[.slice a l.length cap] 27)).alloc (.cells #[.string k] 9)).alloc (.cells #[.string ⟨#[]⟩, .string ⟨#[]⟩, .string ⟨#[]⟩, .string ⟨#[]⟩, .string ⟨#[]⟩, .int .i64 0] 30)).alloc (.cells #[.bool false] 4) = W := ⟨_, rfl⟩
  rw [hW0]
  have hI0 : FI b (.slice a l.length cap) l k w [] W0 := by
    rw [← hW0, ← hb]
    have z1 : (w.alloc (.cells #[.slice a l.length cap] 27)).heap.size = w.heap.size + 1 := by simp
    have z2 : ((w.alloc (.cells #[.slice a l.length cap] 27)).alloc (.cells #[.string k] 9)).heap.size = w.heap.size + 2 := by simp
    have z3 : (((w.alloc (.cells #[.slice a l.length cap] 27)).alloc (.cells #[.string k] 9)).alloc (.cells #[.string ⟨#[]⟩, .string ⟨#[]⟩, .string ⟨#[]⟩, .string ⟨#[]⟩, .string ⟨#[]⟩, .int .i64 0] 30)).heap.size = w.heap.size + 3 := by simp
    refine ⟨fun x hx => absurd hx (by simp), ⟨(((Row.self w _ _).alloc _).alloc _).alloc _, ?_⟩, ⟨?_, ?_⟩, ((((Below.refl _ _).alloc (Nat.le_refl _) _).alloc (by simp) _).alloc (by simp; omega) _).alloc (by simp; omega) _⟩
    · rw [← z1]; exact ((Row.self _ _ _).alloc _).alloc _
    · rw [← z2]; exact (Row.self _ _ _).alloc _
    · rw [← z3]; exact Row.self _ _ _
  have HI0 := Lib.hid hI0
  clear hI0 hW0
  have HTB : Hid (∀ W, Below b w W → TBL W (.slice a l.length cap) l) := Lib.hid fun W h => HT.out.below (by rw [hb]; exact h)
  refine (HAll.out _).mono ?_
  rintro e w2 ⟨rfl, rfl⟩
  go_wp2_with fail
  obtain ⟨c0, hc0⟩ : ∃ c, W0.heap.size = c := ⟨_, rfl⟩
  have hlt2 : b + 3 < W0.heap.size := HI0.out.2.2.1.2.lt
  rw [hc0] at hlt2 ⊢
  have B3 : Below W0.heap.size W0 ((W0.alloc (.cells #[.slice a l.length cap] 27)).alloc (.cells #[.slice a l.length cap] 25)) := ((Below.refl _ _).alloc (Nat.le_refl _) _).alloc (by simp) _
  have HI3 := Lib.hid (HI0.out.below B3)
  have hBn : Row ((W0.alloc (.cells #[.slice a l.length cap] 27)).alloc (.cells #[.slice a l.length cap] 25)) (c0 + 1) 25 [.slice a l.length cap] := by
    rw [show c0 + 1 = (W0.alloc (.cells #[.slice a l.length cap] 27)).heap.size by simp [hc0]]
    exact Row.self _ _ _
  have hz3 : c0 + 1 < ((W0.alloc (.cells #[.slice a l.length cap] 27)).alloc (.cells #[.slice a l.length cap] 25)).heap.size := hBn.lt
  obtain ⟨w3, hw3⟩ : ∃ W, (W0.alloc (.cells #[.slice a l.length cap] 27)).alloc (.cells #[.slice a l.length cap] 25) = W := ⟨_, rfl⟩
  rw [hw3] at HI3 hBn hz3 ⊢
  clear B3 hw3 HI0
  have hel : ∃ g, g ≤ b ∧ ElemsAt w3 g a l := by
    rcases (HTB.out _ HI3.out.2.2.2).form with ⟨h1, _⟩ | ⟨g, cap', cur, h1, h2, _, _, _, h6⟩
    · exact ⟨b, Nat.le_refl _, _, _, _, HI3.out.2.1.1, Or.inl h1⟩
    · injection h1 with h1 _ _
      refine ⟨g, ?_, cur, _, _, h2, Or.inr ⟨h1, h6⟩⟩
      rcases HT.out.form with ⟨_, h3⟩ | ⟨g', _, _, h3, h4, _⟩
      · injection h3 with h3; rw [h1] at h3; cases h3
      · injection h3 with h3 _ _
        rw [h1] at h3
        injection h3 with h3
        injection h3 with h3
        have := (Array.getElem?_eq_some_iff.1 h4).1
        omega
  obtain ⟨g, hgb, hE⟩ := hel
  rw [← wpIn_wide (n := 6)]
  refine' wpIn_rangeFunc_ownH rfl (by omega) (gf := 85) (lb := #[.pointer (some ⟨c0 + 1, 0, none⟩)]) rfl trivial (enters_of Tryz.func85 (by kernel_rfl) rfl)
    (All_stops 5 (by omega) (c0 + 1) g a cap l h64 w3 hBn hE) keepsA_t (keepsA_b (by omega)) (Below.refl _ _) (fun _ => rfl)
    (FI b (.slice a l.length cap) l k w)
    (FX b l k w)
    (FI_own b _ l k w _ (by omega) (by omega))
    (fun c => FX_own b l k w c _ (by omega) (by omega))
    HI3.out
    (fun x a' W => ∃ g', (a' = { tmps := #[Value.agg #[Value.slice a l.length cap], Value.string k,
      Value.pointer (some ⟨b, 0, none⟩), Value.pointer (some ⟨b + 1, 0, none⟩), Value.pointer (some ⟨b + 1 + 1, 0, none⟩), Value.pointer (some ⟨b + 1 + 1 + 1, 0, none⟩), undef, Value.pointer (some ⟨g', 0, none⟩),
      Value.agg #[Value.slice a l.length cap],
      Value.func (Fn.func 85) #[] #[Value.pointer (some ⟨c0 + 1, 0, none⟩)], .int .i64 (x.1.2 : Nat), .agg #[.string x.1.1.lo, .string x.1.1.hi, .string x.1.1.acs, .string x.1.1.low, .string x.1.1.high, .int .i64 x.1.1.mode],
      undef, undef, undef, undef, undef], defers := [] } ∧ b + 3 < g') ∧ Row W g' 30 [.string x.1.1.lo, .string x.1.1.hi, .string x.1.1.acs, .string x.1.1.low, .string x.1.1.high, .int .i64 x.1.1.mode])
    (fun x a' => ax_ownV _) ?hassign ?hbody ?hdone ?hstop
  case hassign =>
    rintro l' pre x W K hI hK
    have hbW : b + 3 < W.heap.size := hI.2.2.1.2.lt
    dsimp only [encA]
    gi_wp2
    have ha : Below W.heap.size W (W.alloc (.cells #[.string x.1.1.lo, .string x.1.1.hi, .string x.1.1.acs, .string x.1.1.low, .string x.1.1.high, .int .i64 x.1.1.mode] 30)) := (Below.refl _ _).alloc (Nat.le_refl _) _
    exact hK _ _ ((below_othersV ha).from _) (ha.block g (by omega)) (hI.below ha) ⟨W.heap.size, ⟨rfl, hbW⟩, Row.self W _ _⟩
  case hbody =>
    rintro l' pre x a' W hl' hrec hI ⟨g', ⟨rfl, hbg⟩, hrow⟩ hlt
    obtain ⟨⟨x, xi⟩, hx⟩ := x
    have HA := Lib.hid (fun W => Has_any x (hl x hx) k hk W)
    obtain ⟨ap, hap⟩ : ∃ ap, hasB x k = ap := ⟨_, rfl⟩
    rw [hap] at HA
    have HAP := Lib.hid hap
    have q0 := hrow.cell 0
    have q1 := hrow.cell 1
    have q2 := hrow.cell 2
    have q3 := hrow.cell 3
    have q4 := hrow.cell 4
    have q5 := hrow.cell 5
    have p0 := hI.2.1.2.cell 0
    simp only [List.getElem?_cons_zero, List.getElem?_cons_succ] at p0 q0 q1 q2 q3 q4 q5
    have HI := Lib.hid hI
    have HRW := Lib.hid hrow
    have hgW : g < W.heap.size := by have := hI.2.1.1.lt; omega
    clear hI hrow hap hE hBn
    dsimp only
    gi_wp2_with fail
    refine ⟨trivial, (CallsIn.inRound l' (callsIn_wide.2 (HA.out _))).mono ?_⟩
    rintro e w4 ⟨rfl, hb4⟩
    have HI4 := Lib.hid (HI.out.below hb4)
    have HB4 := Lib.hid hb4
    have HRW4 := Lib.hid (HRW.out.below hb4 HRW.out.lt)
    clear hb4 p0 q0 q1 q2 q3 q4 q5
    cases ap with
    | false =>
      gi_wp2
      refine ⟨(below_othersV HB4.out).from _, HB4.out.block g hgW, ?_, HI4.out.2⟩
      intro y hy
      rcases List.mem_append.1 hy with hy | hy
      · exact HI4.out.1 y hy
      · rw [List.mem_singleton] at hy
        subst hy
        exact HAP.out
    | true =>
      have q0 := HRW4.out.cell 0
      have q1 := HRW4.out.cell 1
      have q2 := HRW4.out.cell 2
      have q3 := HRW4.out.cell 3
      have q4 := HRW4.out.cell 4
      have q5 := HRW4.out.cell 5
      have d0 := HI4.out.2.2.1.1.cell 0
      have d1 := HI4.out.2.2.1.1.cell 1
      have d2 := HI4.out.2.2.1.1.cell 2
      have d3 := HI4.out.2.2.1.1.cell 3
      have d4 := HI4.out.2.2.1.1.cell 4
      have d5 := HI4.out.2.2.1.1.cell 5
      have f0 := HI4.out.2.2.1.1.frozen 0
      have f1 := HI4.out.2.2.1.1.frozen 1
      have f2 := HI4.out.2.2.1.1.frozen 2
      have f3 := HI4.out.2.2.1.1.frozen 3
      have f4 := HI4.out.2.2.1.1.frozen 4
      have f5 := HI4.out.2.2.1.1.frozen 5
      have e0 := HI4.out.2.2.1.2.cell 0
      have e1 := HI4.out.2.2.1.2.frozen 0
      simp only [List.getElem?_cons_zero, List.getElem?_cons_succ] at q0 q1 q2 q3 q4 q5 d0 d1 d2 d3 d4 d5 e0
      gi_wp2
      obtain ⟨r2, r3, hB⟩ := find_put x true rfl HI4.out.2.2.1.1 ⟨_, HI4.out.2.2.1.2⟩ HI4.out.2.2.2
      exact ⟨((below_othersV HB4.out).trans ((KeepsOthers.setCell _ _ _).trans ((KeepsOthers.setCell _ _ _).trans ((KeepsOthers.setCell _ _ _).trans ((KeepsOthers.setCell _ _ _).trans ((KeepsOthers.setCell _ _ _).trans ((KeepsOthers.setCell _ _ _).trans (KeepsOthers.setCell _ _ _)))))))).from _, ⟨rfl, pre, _, rfl, HI4.out.1, HAP.out, r2⟩, r3, hB⟩
  case hdone =>
    rintro D ys W hD hys hI hK
    have hFN := Lib.hid (find_none hys hI.1)
    have d0 := hI.2.2.1.1.cell 0
    have d1 := hI.2.2.1.1.cell 1
    have d2 := hI.2.2.1.1.cell 2
    have d3 := hI.2.2.1.1.cell 3
    have d4 := hI.2.2.1.1.cell 4
    have d5 := hI.2.2.1.1.cell 5
    have f0 := hI.2.2.1.1.frozen 0
    have f1 := hI.2.2.1.1.frozen 1
    have f2 := hI.2.2.1.1.frozen 2
    have f3 := hI.2.2.1.1.frozen 3
    have f4 := hI.2.2.1.1.frozen 4
    have f5 := hI.2.2.1.1.frozen 5
    have e0 := hI.2.2.1.2.cell 0
    have e1 := hI.2.2.1.2.frozen 0
    simp only [List.getElem?_cons_zero, List.getElem?_cons_succ] at d0 d1 d2 d3 d4 d5 e0
    have HI := Lib.hid hI
    have HKD := Lib.hid (And.intro hK hD)
    clear hI hK hD hys hE hBn
    dsimp only
    go_wp2_with fail
    obtain ⟨r2, r3, hB⟩ := find_put zRG false rfl HI.out.2.2.1.1 ⟨_, HI.out.2.2.1.2⟩ HI.out.2.2.2
    have hDb : w.heap.size ≤ D := by have := HKD.out.2; rw [hb]; omega
    have hDk : D ≠ b + 2 ∧ D ≠ b + 3 := by have := HKD.out.2; exact ⟨by omega, by omega⟩
    have hKx : (((((((W.setCell ⟨b + 2, 0, none⟩ (.string zRG.lo)).setCell ⟨b + 2, 1, none⟩ (.string zRG.hi)).setCell ⟨b + 2, 2, none⟩ (.string zRG.acs)).setCell ⟨b + 2, 3, none⟩ (.string zRG.low)).setCell ⟨b + 2, 4, none⟩ (.string zRG.high)).setCell ⟨b + 2, 5, none⟩ (.int .i64 zRG.mode)).setCell ⟨b + 3, 0, none⟩ (.bool false)).heap[D]? = some (.deferred (some [])) := by
      refine (Below.heap_setCell _ ⟨b + 3, 0, none⟩ _ D hDk.2).trans ?_
      refine (Below.heap_setCell _ ⟨b + 2, 5, none⟩ _ D hDk.1).trans ?_
      refine (Below.heap_setCell _ ⟨b + 2, 4, none⟩ _ D hDk.1).trans ?_
      refine (Below.heap_setCell _ ⟨b + 2, 3, none⟩ _ D hDk.1).trans ?_
      refine (Below.heap_setCell _ ⟨b + 2, 2, none⟩ _ D hDk.1).trans ?_
      refine (Below.heap_setCell _ ⟨b + 2, 1, none⟩ _ D hDk.1).trans ?_
      refine (Below.heap_setCell _ ⟨b + 2, 0, none⟩ _ D hDk.1).trans ?_
      exact HKD.out.1
    have r2a := (World.putObj_heap_other (r := D) (o := .deferred none) (by omega)).trans r2
    have r3a := (World.putObj_heap_other (r := D) (o := .deferred none) (by omega)).trans r3
    refine ⟨by simp, .inl ⟨_, _, rfl, run_takeDeferred hKx, ?_⟩⟩
    exact ⟨_, results_find rfl _ _ (b + 2) (b + 3) zRG false rfl rfl r2a r3a, (show Below w.heap.size w _ by rw [hb]; exact hB).trans (belowK_b (w := w) (Nat.le_refl _) _ D _ _ hDb hKx rfl rfl), by rw [hFN.out]; rfl⟩
  case hstop =>
    rintro D c pre W hD hp ⟨⟨rfl, q, x, rfl, hq, hx, h2⟩, h3, hB⟩ hK
    have hF := find_of_pre hp hq hx
    rw [wpIn_wide]
    dsimp only
    go_wp2
    have hDb : w.heap.size ≤ D := by rw [hb]; omega
    have r2 : Row (W.putObj D (.deferred none)) (b + 2) 30 x.1.1.cells := (World.putObj_heap_other (o := .deferred none) (by omega)).trans h2
    have r3 : Row (W.putObj D (.deferred none)) (b + 3) 4 [.bool true] := (World.putObj_heap_other (o := .deferred none) (by omega)).trans h3
    refine ⟨by simp, .inl ⟨_, _, rfl, run_takeDeferred hK, ?_⟩⟩
    exact ⟨_, results_find rfl _ _ _ _ _ _ rfl rfl r2 r3, (show Below w.heap.size w W by rw [hb]; exact hB).trans (belowK_b (w := w) (Nat.le_refl _) _ D _ _ hDb hK rfl rfl), by rw [hF]; rfl⟩
end Go.Proofs.YtldjnegoefdadaaGreatDoor

namespace Go.Proofs.YtldjnegoefdadaaGreatDoor
open Go.RowKit
set_option linter.unusedVariables false

def delL (l : List RG) (i : Nat) : List RG := l.take i ++ l.drop (i + 1)
theorem delL_len (l : List RG) (i : Nat) (h : i < l.length) : (delL l i).length = l.length - 1 := by unfold delL; simp; omega
theorem step_append_r {P : Program} {ops : Array Oper} {o : Oper} {a : Act} {w : World} {K : Act → World → Prop} {Q : Exit → Act → World → Prop} {E : Prop}
    (hg : o.guard = none) (d x : Operand) (dT sT : TypeId) (hop : o.op = Op.call { callee := Callee.builtin Builtin.append, args := #[d, x], argTypes := #[dT, sT] })
    (v u : Value) (hd : a.eval d = v) (hx : a.eval x = u) {v' : Value} {w' : World} (hr : (Builtin.append_ #[dT, sT] o.type #[v, u]).run P w = .ok v' w') (hK : K (a.put o.dst v') w') :
    if Region.wanted o (yielded ops a.tmps) = true then Oper.wp P o a w K Q else E := by
  rw [if_pos (by simp [Region.wanted, hg])]
  unfold Oper.wp
  simp [execOp, hop, resolve, invoke, builtin, hd, hx, hr, Result.andThen]
  exact hK
/-- clear of one element of k cells. -/
theorem run_clear_k {P : Program} (w : World) (t e ty : TypeId) (i : TypeInfo) (z : Value) (ht : P.underlying t = some (.slice e)) (hi : P.info? e = some i) (hz : i.zero = some z) (h1 : ∀ v ∈ z.cells.toList, v.oneCell' = true) (b o c : Nat)
    (hc : ∀ j, j < z.cells.size → (w.cell? ⟨b, o + j, none⟩).isSome = true) (hf : ∀ j, j < z.cells.size → w.frozen? ⟨b, o + j, none⟩ = false) :
    (Builtin.clear_ #[t] ty #[.slice (some ⟨b, o, none⟩) 1 c]).run P w = .ok (.tuple #[]) (w.setCells b o z.cells.toList) := by
  have hst : (storeCells ⟨b, o, none⟩ z.cells.toList).run P w = .ok () (w.setCells b o z.cells.toList) := by simpa using run_storeCells_cells (P := P) b o z.cells.toList 0 w (by simpa using hc) (by simpa using hf) h1
  have hzc : (Builtin.zeroCells z.cells 1).toList = z.cells.toList := by
    simp [Builtin.zeroCells]
    apply List.ext_getElem
    · simp
    · intro j h1 h2
      have hj : j < z.cells.size := by simpa using h2
      simp [Nat.mod_eq_of_lt hj, hj]
  simp [Builtin.clear_, run_underlying ht, zeroValue, typeInfo, hi, hz, hzc, hst]

theorem range_zero : ∃ i, Tryz.prog.info? 30 = some i ∧ i.zero = some (.agg #[.string ⟨#[]⟩, .string ⟨#[]⟩, .string ⟨#[]⟩, .string ⟨#[]⟩, .string ⟨#[]⟩, .int .i64 0]) ∧ i.size = 6 ∧ i.bytes = 88 := by
  have h : (Tryz.prog.info? 30).map (fun i => (i.zero, i.size, i.bytes)) = some (some (.agg #[.string ⟨#[]⟩, .string ⟨#[]⟩, .string ⟨#[]⟩, .string ⟨#[]⟩, .string ⟨#[]⟩, .int .i64 0]), 6, 88) := by kernel_rfl
  cases hi : Tryz.prog.info? 30 with
  | none => rw [hi] at h; cases h
  | some i =>
    rw [hi] at h
    simp only [Option.map_some, Option.some.injEq, Prod.mk.injEq] at h
    exact ⟨i, rfl, h⟩

set_option maxHeartbeats 4000000 in
set_option maxRecDepth 100000 in
theorem Delete_any (B : Nat) (l : List RG) (h64 : l.length ≤ 64) (i : Nat) (hi : i < l.length) (s : Value) (w : World) (hO : OWN B w s l) :
    Calls Tryz.prog 38 #[s, .int .i64 i, .int .i64 ((i : Int) + 1)] w fun e w' => ∃ s', e = .returned s' ∧ OWN B w' s' (delL l i) ∧ Below B w w' := by
  rcases hO.2 with ⟨_, h0⟩ | ⟨g, cap, cur, rfl, hBg, hg, hnc, hcm, hcs, htk⟩
  · omega
  have u36 := Tryz.underlying25
  have u3 := Tryz.underlying3
  obtain ⟨i0, hi0, hz0, hzs, hzb⟩ := range_zero
  obtain ⟨n, hn⟩ : ∃ n, l.length = n := ⟨_, rfl⟩
  rw [hn] at h64 hi hnc htk ⊢
  have hR0 := rangeAt_of_cur hg (by rw [hn]; exact htk)
  have hcl := cellsL_len l
  rw [hn] at hcl
  have hdl : ((cellsL l).drop ((i + 1) * 6)).length = (n - (i + 1)) * 6 := by rw [List.length_drop]; omega
  have htl : ((cellsL l).take (i * 6)).length = i * 6 := by rw [List.length_take]; omega
  have hctl : cur.toList.length = cap * 6 := by simpa using hcs
  -- the row behind the append
  obtain ⟨A, hA, hsrc⟩ : ∃ A : Addr, (if cap = i + 1 then some (⟨g, 0, none⟩ : Addr) else some ⟨g, (i + 1) * 6, none⟩) = some A ∧ Hid (∀ t u, ((cellsL l).drop ((i + 1) * 6))[t]? = some u → w.drew.cell? (A.add t) = some u) := by
    by_cases h : cap = i + 1
    · refine ⟨⟨g, 0, none⟩, by simp [h], Lib.hid fun t u hu => ?_⟩
      have h0 : ((cellsL l).drop ((i + 1) * 6)).length = 0 := by rw [hdl]; omega
      rw [List.length_eq_zero_iff.1 h0] at hu
      simp at hu
    · refine ⟨⟨g, (i + 1) * 6, none⟩, by simp [h], Lib.hid fun t u hu => ?_⟩
      rw [Addr.add_mid]
      have := rangeAt_drop hR0 ((i + 1) * 6) t u hu
      rw [Nat.zero_add] at this
      exact this
  have happ := fun ty c => run_append_room (P := Tryz.prog) w.drew 25 ty 30 i0 u36 hi0 g i cap cur hg A (n - (i + 1)) c ((cellsL l).drop ((i + 1) * 6)) (by rw [hzs, hdl]) hsrc.out (fun u hu => cellsL_one l u (List.mem_of_mem_drop hu)) (by omega) (by rw [hzs, hdl, hcs]; omega)
  rw [hzs] at happ
  obtain ⟨C1, hC1⟩ : ∃ C, (cur.toList.take (i * 6) ++ (cellsL l).drop ((i + 1) * 6) ++ cur.toList.drop (i * 6 + ((cellsL l).drop ((i + 1) * 6)).length)).toArray = C := ⟨_, rfl⟩
  rw [hC1, show i + (n - (i + 1)) = n - 1 by omega] at happ
  have hC1s : C1.size = cap * 6 := by
    rw [← hC1]
    simp only [List.size_toArray, List.length_append, List.length_take, List.length_drop, hctl, hcl]
    omega
  have hctk : cur.toList.take (i * 6) = (cellsL l).take (i * 6) := by rw [← htk, List.take_take, Nat.min_eq_left (by omega)]
  have hdell : cellsL (delL l i) = (cellsL l).take (i * 6) ++ (cellsL l).drop ((i + 1) * 6) := by unfold delL; rw [cellsL_append, cellsL_take, cellsL_drop]
  have hC1t : C1.toList.take ((n - 1) * 6) = cellsL (delL l i) := by
    rw [← hC1, hdell, hctk]
    have hl2 : ((cellsL l).take (i * 6) ++ (cellsL l).drop ((i + 1) * 6)).length = (n - 1) * 6 := by rw [List.length_append, htl, hdl]; omega
    rw [List.toList_toArray, List.take_append_of_le_length (by omega), List.take_of_length_le (by omega)]
  obtain ⟨W1, hW1⟩ : ∃ W, w.drew.setRow g C1 = W := ⟨_, rfl⟩
  rw [hW1] at happ
  have f1 : W1.heap[g]? = some (.cells C1 30 (0, 0)) := by rw [← hW1]; exact setRow_heap w.drew g cur C1 _ (0, 0) hg
  have B1 : Below B w W1 := by rw [← hW1]; exact below_setRow (B := B) (Below.refl B w).drew hBg C1
  -- the last element is wiped
  have hlast : (n - 1) * 6 + 6 ≤ cap * 6 := by omega
  have hclr := fun ty c => run_clear_k (P := Tryz.prog) W1 25 30 ty i0 _ u36 hi0 hz0 (by decide) g ((n - 1) * 6) c (fun j hj => by
      have hj6 : j < 6 := hj
      rw [cell_of_row W1 g _ C1 _ (0, 0) f1, Array.getElem?_eq_getElem (by omega)]
      rfl) (fun j hj => by simp [World.frozen?, f1])
  obtain ⟨Z, hZ⟩ : ∃ Z, (Value.agg #[.string ⟨#[]⟩, .string ⟨#[]⟩, .string ⟨#[]⟩, .string ⟨#[]⟩, .string ⟨#[]⟩, .int .i64 0]).cells.toList = Z := ⟨_, rfl⟩
  have hZl : Z.length = 6 := by rw [← hZ]; rfl
  rw [hZ] at hclr
  have s1 : W1.rangeAt g 0 (cellsL (delL l i)) := rangeAt_of_cur (l := delL l i) f1 (by rw [delL_len l i (by omega), hn]; exact hC1t)
  have hdlen : (cellsL (delL l i)).length = (n - 1) * 6 := by rw [cellsL_len, delL_len l i (by omega), hn]
  have s2 := World.rangeAt_setCells_apart s1 g ((n - 1) * 6) Z (Or.inr (Or.inl (by omega)))
  obtain ⟨C2, f2, hC2⟩ := setCells_shape g _ _ Z ((n - 1) * 6) W1 C1 f1
  have B2 := below_setCells (B := B) g hBg Z ((n - 1) * 6) W1 B1
  obtain ⟨W2, hW2⟩ : ∃ W, W1.setCells g ((n - 1) * 6) Z = W := ⟨_, rfl⟩
  rw [hW2] at hclr s2 f2 B2
  have HO : Hid (OWN B W2 (.slice (some ⟨g, 0, none⟩) (n - 1) cap) (delL l i) ∧ Below B w W2) := Lib.hid (by
    refine ⟨?_, B2⟩
    have hdn := delL_len l i (by omega)
    rw [hn] at hdn
    refine ⟨cellsL_len _, Or.inr ⟨g, cap, C2, by rw [hdn], hBg, f2, by omega, hcm, by rw [hC2, hC1s], ?_⟩⟩
    apply List.ext_getElem?
    intro j
    by_cases hj : j < (n - 1) * 6
    · rw [hdn, List.getElem?_take_of_lt hj, Array.getElem?_toList, ← cell_of_row W2 g j C2 _ (0, 0) f2]
      have h3 := s2 j _ (List.getElem?_eq_getElem (by omega))
      rw [Nat.zero_add] at h3
      rw [h3, List.getElem?_eq_getElem (by omega)]
    · rw [List.getElem?_eq_none (by rw [List.length_take, hdn]; omega), List.getElem?_eq_none (by omega)])
  have mixed : Tryz.prog.follows Departure.mixedOrders = true := by kernel_rfl
  have hij : ¬ ((i : Int) = (i : Int) + 1) := by omega
  have hw1 : (0 : Int) ≤ (i : Int) + 1 := by omega
  have htn : ((i : Int) + 1).toNat = i + 1 := by omega
  have hjn : (i : Int) + 1 ≤ (n : Int) := by omega
  have hin : i ≤ n := by omega
  have hncI : (n : Int) ≤ (cap : Int) := by omega
  have hci : ¬ (cap = i) := by omega
  have hic : i ≤ cap := by omega
  have h11 : n - (n - 1) = 1 := by omega
  have hncN : n ≤ cap := hnc
  have hn1 : n - 1 ≤ n := by omega
  have hcn1 : ¬ (cap = n - 1) := by omega
  have hn1I : ((n - 1 : Nat) : Int) ≤ (n : Int) := by omega
  have happ' := Lib.hid happ
  unfold maxLen at hcm
  clear happ hsrc hR0 hcl hdl htl hctl hC1 hC1s hctk hdell hC1t hW1 f1 B1 hZ hZl s1 hdlen s2 hC2 f2 B2 hW2 htk hcs hg hO hn
  go_enter Tryz.func38, Tryz.ntmps38
  go_wp2_with fail
  go_region_law_o (refine step_append_r rfl _ _ 25 25 rfl (.slice (some ⟨g, 0, none⟩) i cap) (.slice (some A) (n - (i + 1)) (cap - (i + 1))) (by simp [Act.eval, Act.put]) (by simp [Act.eval, Act.put]) (happ'.out 25 (cap - (i + 1))) ?_)
  go_wp2
  go_ret
  exact ⟨_, rfl, HO.out.1, HO.out.2⟩
end Go.Proofs.YtldjnegoefdadaaGreatDoor

namespace Go.Proofs.YtldjnegoefdadaaGreatDoor
open Go.RowKit Go.Shelf
set_option linter.unusedVariables false
set_option linter.unusedSimpArgs false

/-- How Drop ends. -/
def DropPost (l : List RG) (k : ByteArray) (p : Nat) (w : World) (e : Ending) (w' : World) : Prop :=
  Below w.heap.size w w' ∧ ∃ s' er, e = .returned (.tuple #[.agg #[s'], .int .i64 er]) ∧
    ((er = 16 ∧ s' = .slice none 0 0 ∧ ¬ ∃ h : p < l.length, ck k l[p] = 0) ∨ (er = 0 ∧ (∃ h : p < l.length, ck k l[p] = 0) ∧ OWN w.heap.size w' s' (delL l p)))

set_option maxRecDepth 100000 in
set_option maxHeartbeats 4000000 in
theorem Drop_any (l : List RG) (hl : ∀ r ∈ l, r.light) (h64 : l.length ≤ 64) (k : ByteArray) (hk : k.size ≤ 1000) (p : Nat) (hp : Stands l k p) (s : Value) (w : World) (hT : TBL w s l) :
    Calls Tryz.prog 10 #[.agg #[s], .string k] w (DropPost l k p w) := by
  obtain ⟨a, cap, rfl⟩ := hT.slice
  have HPl := Lib.hid (fun W h => place_any l hl h64 k hk p hp (.slice a l.length cap) W h)
  have HCl := Lib.hid (fun W h => Clone_any l h64 (.slice a l.length cap) W h)
  obtain ⟨b, hb⟩ : ∃ b, w.heap.size = b := ⟨_, rfl⟩
  have B0 : Below b w ((w.alloc (.cells #[.slice a l.length cap] 27)).alloc (.cells #[.slice none 0 0] 27)) := by rw [← hb]; exact ((Below.refl _ _).alloc (Nat.le_refl _) _).alloc (by simp) _
  have H0 : Hid (Row ((w.alloc (.cells #[.slice a l.length cap] 27)).alloc (.cells #[.slice none 0 0] 27)) b 27 [.slice a l.length cap] ∧ Row ((w.alloc (.cells #[.slice a l.length cap] 27)).alloc (.cells #[.slice none 0 0] 27)) (b + 1) 27 [.slice none 0 0]) := Lib.hid (by
    rw [← hb]
    have z1 : (w.alloc (.cells #[.slice a l.length cap] 27)).heap.size = w.heap.size + 1 := by simp
    refine ⟨(Row.self w _ _).alloc _, ?_⟩
    rw [← z1]
    exact Row.self _ _ _)
  have HB0 := Lib.hid B0
  have HT : Hid (∀ W, Below b w W → TBL W (.slice a l.length cap) l) := Lib.hid fun W h => hT.below (by rw [hb]; exact h)
  obtain ⟨R, hR⟩ : ∃ R, decide (∃ h : p < l.length, ck k l[p] = 0) = R := ⟨_, rfl⟩
  rw [hR] at HPl
  have HR := Lib.hid hR
  clear B0 hT hR
  go_enter Tryz.func10, Tryz.ntmps10
  go_wp2_with fail
  generalize (w.alloc (.cells #[.slice a l.length cap] 27)).alloc (.cells #[.slice none 0 0] 27) = w1 at H0 HB0 ⊢
  refine (HPl.out _ (HT.out _ HB0.out)).mono ?_
  rintro e w2 ⟨rfl, hb2⟩
  have R0 := Lib.hid (H0.out.1.below hb2 H0.out.1.lt)
  have R1 := Lib.hid (H0.out.2.below hb2 H0.out.2.lt)
  have B2 := Lib.hid (HB0.out.trans (hb2.mono (Nat.le_of_lt H0.out.1.lt)))
  clear hb2 H0 HB0
  have p0 := R0.out.cell 0
  have p1 := R1.out.cell 0
  have f1 := R1.out.frozen 0
  simp only [List.getElem?_cons_zero] at p0 p1
  cases R with
  | false =>
    have HN : Hid (¬ ∃ h : p < l.length, ck k l[p] = 0) := Lib.hid (of_decide_eq_false HR.out)
    clear HR
    go_wp2_with fail
    have r1 := R1.out.set 0 (.slice none 0 0)
    refine bodyPost_ret (results_tt rfl _ _ (b + 1) (.slice none 0 0) (.int .i64 16) rfl rfl r1) rfl ?_
    exact ⟨by rw [hb]; exact B2.out.setCell (p := ⟨b + 1, 0, none⟩) (by show b ≤ b + 1; omega) _, _, _, rfl, Or.inl ⟨rfl, rfl, HN.out⟩⟩
  | true =>
    have HY : Hid (∃ h : p < l.length, ck k l[p] = 0) := Lib.hid (of_decide_eq_true HR.out)
    have hpl := HY.out.1
    have HDel := Lib.hid (fun B s W h => Delete_any B l h64 p hpl s W h)
    clear HR
    go_wp2_with fail
    refine (HCl.out _ (HT.out _ B2.out)).mono ?_
    rintro e w3 ⟨s1, rfl, hO1, hb3⟩
    have B3 := Lib.hid (B2.out.trans (hb3.mono (by have := R0.out.lt; omega)))
    have Q1 := Lib.hid (R1.out.below hb3 R1.out.lt)
    have HO1 := Lib.hid hO1
    have hsz2 : b + 1 < w2.heap.size := R1.out.lt
    clear hO1 p0 p1 f1
    obtain ⟨xa, xn, xc, rfl⟩ : ∃ a n c, s1 = Value.slice a n c := (by obtain ⟨a, c, h⟩ := HO1.out.tbl.slice; exact ⟨a, _, c, h⟩)
    go_wp2_with fail
    refine (HDel.out w2.heap.size _ _ HO1.out).mono ?_
    rintro e w4 ⟨s2, rfl, hO2, hb4⟩
    have B4 := Lib.hid (B3.out.trans (hb4.mono (by omega)))
    have Q2 := Lib.hid (Q1.out.below hb4 hsz2)
    have HO2 := Lib.hid hO2
    clear hO2 hb3 hb4
    obtain ⟨ya, yn, yc, rfl⟩ : ∃ a n c, s2 = Value.slice a n c := (by obtain ⟨a, c, h⟩ := HO2.out.tbl.slice; exact ⟨a, _, c, h⟩)
    have p1 := Q2.out.cell 0
    have f1 := Q2.out.frozen 0
    simp only [List.getElem?_cons_zero] at p1
    go_wp2_with fail
    have r1 := Q2.out.set 0 (.slice ya yn yc)
    refine bodyPost_ret (results_tt rfl _ _ (b + 1) (.slice ya yn yc) (.int .i64 0) rfl rfl r1) rfl ?_
    refine ⟨by rw [hb]; exact B4.out.setCell (p := ⟨b + 1, 0, none⟩) (by show b ≤ b + 1; omega) _, _, _, rfl, Or.inr ⟨rfl, HY.out, ?_⟩⟩
    rw [hb]
    exact (OWN.same HO2.out (fun g hg => Below.heap_setCell _ ⟨b + 1, 0, none⟩ _ g (by show g ≠ b + 1; omega))).weak (by omega)
end Go.Proofs.YtldjnegoefdadaaGreatDoor

namespace Go.Proofs.YtldjnegoefdadaaGreatDoor
open Go.RowKit
set_option linter.unusedVariables false

theorem insL_perm (t : List RG) (i : Nat) (r : RG) : (insL t i r).Perm (r :: t) := by
  unfold insL
  have h := (List.perm_middle (a := r) (l₁ := t.take i) (l₂ := t.drop i))
  rwa [List.take_append_drop] at h
/-- What is in the table of the first i. -/
theorem tab_perm (L : List RG) : ∀ i t, i ≤ L.length → tabN L i = some t → t.Perm (L.take i)
  | 0, t, _, h => by
    injection h with h
    subst h
    exact List.Perm.refl _
  | i + 1, t, hi, h => by
    rw [tabN] at h
    cases h1 : tabN L i with
    | none => rw [h1] at h; cases h
    | some u =>
      rw [h1] at h
      dsimp only at h
      rw [dif_pos (show i < L.length by omega)] at h
      by_cases h3 : errA u L[i] = 0
      · rw [if_pos h3] at h
        injection h with h
        subst h
        have ih := tab_perm L i u (by omega) h1
        rw [List.take_succ_eq_append_getElem (by omega)]
        exact (insL_perm _ _ _).trans ((List.Perm.cons _ ih).trans (List.perm_append_singleton _ _).symm)
      · rw [if_neg h3] at h; cases h
theorem apartB_symm (a b : RG) : apartB a b = apartB b a := by unfold apartB; rw [Bool.or_comm]
/-- Ranges that may be in one table. -/
def Fits (L : List RG) : Prop := (∀ x ∈ L, chkN x = 0) ∧ L.Pairwise (fun a b => apartB a b = true)
theorem good_fits {t : List RG} (h : Good t) : Fits t := ⟨h.1, h.2.imp (fun {a b} h1 => by unfold apartB; rw [decide_eq_true h1, Bool.true_or])⟩
theorem Fits.perm {L M : List RG} (h : Fits L) (hp : L.Perm M) : Fits M :=
  ⟨fun x hx => h.1 x (hp.mem_iff.2 hx), h.2.perm hp (fun {a b} h1 => by rw [apartB_symm]; exact h1)⟩
/-- Such ranges make a table, in whatever order they come. -/
theorem fits_tab {L : List RG} (h : Fits L) (h64 : L.length ≤ 64) : ∀ i, i ≤ L.length → ∃ t, tabN L i = some t
  | 0, _ => ⟨[], rfl⟩
  | i + 1, hi => by
    obtain ⟨u, hu⟩ := fits_tab h h64 i (by omega)
    have hp := tab_perm L i u (by omega) hu
    have hlen : u.length = i := by rw [hp.length_eq, List.length_take]; omega
    have he : errA u L[i] = 0 := by
      unfold errA
      rw [if_neg (by rw [h.1 _ (List.getElem_mem _)]; simp), if_neg (by omega), if_neg]
      rw [Bool.not_eq_false, List.all_eq_true]
      intro x hx
      have hx2 := hp.mem_iff.1 hx
      obtain ⟨j, hj, rfl⟩ := List.getElem_of_mem hx2
      rw [List.length_take] at hj
      rw [List.getElem_take, apartB_symm]
      exact List.pairwise_iff_getElem.1 h.2 j i (by omega) (by omega) (by omega)
    exact ⟨insL u (plc u L[i]) L[i], by rw [tabN, hu]; dsimp only; rw [dif_pos (show i < L.length by omega), if_pos he]⟩
/-- Two good tables of the same ranges are one. -/
theorem good_eq {t u : List RG} (ht : Good t) (hu : Good u) (hp : t.Perm u) : t = u := by
  refine hp.eq_of_pairwise ?_ ht.2 hu.2
  intro a b ha hb h1 h2
  exfalso
  have h3 := cmpC_le_lt (chk_le a (ht.1 a ha)) h1
  have h4 := cmpC_le_lt (chk_le b (hu.1 b hb)) h2
  have h5 := cmpC_lt_le h3 (by omega : cmpC b.lo.data.toList a.lo.data.toList ≤ 0)
  rw [(cmpC_eq _ _).2 rfl] at h5
  omega
theorem has_iff {r : RG} (hr : chkN r = 0) {x : RG} (hx : chkN x = 0) {c : ByteArray} (hc : c = x.lo ∨ c = x.hi) : hasB r c = true ↔ cmpC r.lo.data.toList c.data.toList ≤ 0 ∧ cmpC c.data.toList r.hi.data.toList ≤ 0 := by
  have hd : isD c = true := by
    obtain ⟨h1, h2, _⟩ := chk_zero x hx
    rcases hc with rfl | rfl
    · exact h1
    · exact h2
  obtain ⟨r1, r2, r3⟩ := chk_zero r hr
  unfold hasB
  rw [hd]
  simp only [Bool.true_and, Bool.and_eq_true, decide_eq_true_eq]
  constructor
  · rintro ⟨⟨_, h1⟩, h2⟩; exact ⟨h1, h2⟩
  · rintro ⟨h1, h2⟩
    refine ⟨⟨?_, h1⟩, h2⟩
    have l1 : r.lo.data.toList.length = r.lo.size := by simp
    have l2 : r.hi.data.toList.length = r.hi.size := by simp
    have l3 : c.data.toList.length = c.size := by simp
    unfold cmpC at h1 h2
    by_cases k1 : c.size < r.lo.size
    · rw [if_neg (by omega), if_pos (by omega)] at h1
      exact absurd h1 (by decide)
    · by_cases k2 : r.hi.size < c.size
      · rw [if_neg (by omega), if_pos (by omega)] at h2
        exact absurd h2 (by decide)
      · omega
/-- Of two ranges in one table but one has an end. -/
theorem has_one {t : List RG} (h : Good t) {x r : RG} (hx : x ∈ t) (hr : r ∈ t) {c : ByteArray} (hc : c = r.lo ∨ c = r.hi) (hh : hasB x c = true) : x = r := by
  have hcx := h.1 x hx
  have hcr := h.1 r hr
  have h1 := (has_iff hcx hcr hc).1 hh
  have h2 : cmpC r.lo.data.toList c.data.toList ≤ 0 ∧ cmpC c.data.toList r.hi.data.toList ≤ 0 := by
    have := chk_le r hcr
    rcases hc with rfl | rfl
    · exact ⟨by rw [(cmpC_eq _ _).2 rfl]; omega, this⟩
    · exact ⟨this, by rw [(cmpC_eq _ _).2 rfl]; omega⟩
  obtain ⟨i, hi, rfl⟩ := List.getElem_of_mem hx
  obtain ⟨j, hj, rfl⟩ := List.getElem_of_mem hr
  rcases Nat.lt_trichotomy i j with hij | rfl | hij
  · have h3 := List.pairwise_iff_getElem.1 h.2 i j hi hj hij
    have h4 := cmpC_lt_le (cmpC_le_lt h1.2 h3) h2.1
    rw [(cmpC_eq _ _).2 rfl] at h4
    omega
  · rfl
  · have h3 := List.pairwise_iff_getElem.1 h.2 j i hj hi hij
    have h4 := cmpC_lt_le (cmpC_le_lt h2.2 h3) h1.1
    rw [(cmpC_eq _ _).2 rfl] at h4
    omega
theorem has_own {r : RG} (hr : chkN r = 0) : hasB r r.lo = true ∧ hasB r r.hi = true := by
  have h := chk_le r hr
  have e1 : cmpC r.lo.data.toList r.lo.data.toList = 0 := (cmpC_eq _ _).2 rfl
  have e2 : cmpC r.hi.data.toList r.hi.data.toList = 0 := (cmpC_eq _ _).2 rfl
  exact ⟨(has_iff hr hr (Or.inl rfl)).2 ⟨by omega, h⟩, (has_iff hr hr (Or.inr rfl)).2 ⟨h, by omega⟩⟩
theorem find_own {t : List RG} (h : Good t) {r : RG} (hr : r ∈ t) {c : ByteArray} (hc : c = r.lo ∨ c = r.hi) : findL t c = some r := by
  unfold findL
  have hh : hasB r c = true := by
    rcases hc with rfl | rfl
    · exact (has_own (h.1 r hr)).1
    · exact (has_own (h.1 r hr)).2
  cases hf : t.find? (fun x => hasB x c) with
  | none =>
    have := List.find?_eq_none.1 hf r hr
    exact absurd hh this
  | some x =>
    have h1 := List.find?_some hf
    have h2 := List.mem_of_find?_eq_some hf
    rw [has_one h h2 hr hc h1]
/-- Where a range of the table begins, it stands; without it none has its ends. -/
theorem drop_own {t : List RG} (h : Good t) {r : RG} (hr : r ∈ t) : (∃ hp : plc t r < t.length, t[plc t r] = r ∧ ck r.lo t[plc t r] = 0) ∧ findL (delL t (plc t r)) r.hi = none := by
  have hst := good_stands h r
  obtain ⟨i, hi, rfl⟩ := List.getElem_of_mem hr
  have e0 : ck t[i].lo t[i] = 0 := (cmpC_eq _ _).2 rfl
  have h1 : ¬ i < plc t t[i] := fun h1 => by have := (hst.2 i hi).1 h1; omega
  have h2 : ¬ plc t t[i] < i := fun h2 => by
    have h3 : ¬ ck t[i].lo t[plc t t[i]] < 0 := fun h3 => by have := (hst.2 _ (by omega)).2 h3; omega
    have h4 := List.pairwise_iff_getElem.1 h.2 (plc t t[i]) i (by omega) hi h2
    have h5 := cmpC_le_lt (chk_le _ (h.1 t[plc t t[i]] (List.getElem_mem _))) h4
    exact h3 h5
  have hp : plc t t[i] = i := by omega
  rw [hp]
  refine ⟨⟨hi, rfl, e0⟩, ?_⟩
  unfold findL
  rw [List.find?_eq_none]
  intro x hx hh
  unfold delL at hx
  have hxt : x ∈ t := by
    rcases List.mem_append.1 hx with hx | hx
    · exact List.mem_of_mem_take hx
    · exact List.mem_of_mem_drop hx
  have hxe := has_one h hxt (List.getElem_mem hi) (Or.inr rfl) hh
  have hpw : ∀ j (hj : j < t.length), t[j] = t[i] → j = i := fun j hj he => by
    rcases Nat.lt_trichotomy j i with hji | hji | hji
    · have h4 := List.pairwise_iff_getElem.1 h.2 j i hj hi hji
      rw [he] at h4
      have h5 := chk_zero2 _ (h.1 t[i] (List.getElem_mem _))
      exact absurd h4 h5
    · exact hji
    · have h4 := List.pairwise_iff_getElem.1 h.2 i j hi hj hji
      rw [he] at h4
      have h5 := chk_zero2 _ (h.1 t[i] (List.getElem_mem _))
      exact absurd h4 h5
  rcases List.mem_append.1 hx with hx | hx
  · obtain ⟨j, hj, hje⟩ := List.getElem_of_mem hx
    rw [List.length_take] at hj
    rw [List.getElem_take] at hje
    have := hpw j (by omega) (hje.trans hxe)
    omega
  · obtain ⟨j, hj, hje⟩ := List.getElem_of_mem hx
    rw [List.length_drop] at hj
    rw [List.getElem_drop] at hje
    have := hpw (i + 1 + j) (by omega) (hje.trans hxe)
    omega
end Go.Proofs.YtldjnegoefdadaaGreatDoor

namespace Go.Proofs.YtldjnegoefdadaaGreatDoor
open Go.RowKit Go.Shelf
set_option linter.unusedVariables false
set_option linter.unusedSimpArgs false

theorem New_perm (L M : List RG) (t : List RG) (hL : ∀ r ∈ L, r.light) (h64 : L.length ≤ 64) (hp : L.Perm M) (ht : tabN L L.length = some t) (s : Value) (w : World) (hG : VG w) (hT : TBL w s M) :
    Calls Tryz.prog 19 #[s] w fun e w' => Below w.heap.size w w' ∧ ∃ s', e = .returned (.tuple #[.agg #[s'], .int .i64 0]) ∧ TBL w' s' t := by
  have hlen := hp.length_eq
  have hfit : Fits M := by
    have h1 := tab_perm L L.length t (Nat.le_refl _) ht
    rw [List.take_length] at h1
    exact ((good_fits (tab_good L _ t ht)).perm h1).perm hp
  refine (New_any M (fun r hr => hL r (hp.mem_iff.2 hr)) (by omega) (tab_stands M) s w hG hT).mono ?_
  rintro e w' ⟨hb, hcase⟩
  refine ⟨hb, ?_⟩
  rcases hcase with ⟨i, hi, u, hu, hne, _⟩ | ⟨u, s', hu, rfl, hTs⟩
  · exfalso
    obtain ⟨t', ht'⟩ := fits_tab hfit (by omega) (i + 1) (by omega)
    rw [tabN, hu] at ht'
    dsimp only at ht'
    rw [dif_pos hi, if_neg hne] at ht'
    cases ht'
  · have h1 := tab_perm L L.length t (Nat.le_refl _) ht
    have h2 := tab_perm M M.length u (Nat.le_refl _) hu
    rw [List.take_length] at h1 h2
    have he : u = t := good_eq (tab_good M _ u hu) (tab_good L _ t ht) (h2.trans (hp.symm.trans h1.symm))
    subst he
    exact ⟨s', rfl, hTs⟩

theorem Find_own (t : List RG) (hg : Good t) (hl : ∀ r ∈ t, r.light) (h64 : t.length ≤ 64) (r : RG) (hr : r ∈ t) (c : ByteArray) (hc : c = r.lo ∨ c = r.hi) (s : Value) (w : World) (hT : TBL w s t) :
    Calls Tryz.prog 17 #[.agg #[s], .string c] w fun e w' => e = .returned (.tuple #[.agg #[.string r.lo, .string r.hi, .string r.acs, .string r.low, .string r.high, .int .i64 r.mode], .bool true]) ∧ Below w.heap.size w w' := by
  have hrl := hl r hr
  have hk : c.size ≤ 1000 := by
    rcases hc with rfl | rfl
    · exact hrl.1
    · exact hrl.2.1
  refine (Find_any t hl h64 c hk s w hT).mono ?_
  rintro e w' ⟨hb, rfl⟩
  rw [find_own hg hr hc]
  exact ⟨rfl, hb⟩
theorem delL_in {l : List RG} {p : Nat} {x : RG} (h : x ∈ delL l p) : x ∈ l := by
  unfold delL at h
  rcases List.mem_append.1 h with h | h
  · exact List.mem_of_mem_take h
  · exact List.mem_of_mem_drop h
theorem Drop_own (t : List RG) (hg : Good t) (hl : ∀ r ∈ t, r.light) (h64 : t.length ≤ 64) (r : RG) (hr : r ∈ t) (s : Value) (w : World) (hT : TBL w s t) :
    Calls Tryz.prog 10 #[.agg #[s], .string r.lo] w fun e w' => Below w.heap.size w w' ∧ ∃ s', e = .returned (.tuple #[.agg #[s'], .int .i64 0]) ∧ TBL w' s' (delL t (plc t r)) := by
  refine (Drop_any t hl h64 r.lo (hl r hr).1 (plc t r) (good_stands hg r) s w hT).mono ?_
  rintro e w' ⟨hb, s', er, rfl, h⟩
  obtain ⟨⟨hp, _, h0⟩, _⟩ := drop_own hg hr
  rcases h with ⟨_, _, hn⟩ | ⟨rfl, _, hO⟩
  · exact absurd ⟨hp, h0⟩ hn
  · exact ⟨hb, s', rfl, hO.tbl⟩
theorem Find_gone (t : List RG) (hg : Good t) (hl : ∀ r ∈ t, r.light) (h64 : t.length ≤ 64) (r : RG) (hr : r ∈ t) (s : Value) (w : World) (hT : TBL w s (delL t (plc t r))) :
    Calls Tryz.prog 17 #[.agg #[s], .string r.hi] w fun e w' => e = .returned (.tuple #[.agg #[.string ⟨#[]⟩, .string ⟨#[]⟩, .string ⟨#[]⟩, .string ⟨#[]⟩, .string ⟨#[]⟩, .int .i64 0], .bool false]) ∧ Below w.heap.size w w' := by
  have hd := drop_own hg hr
  refine (Find_any (delL t (plc t r)) (fun x hx => hl x (delL_in hx)) (by rw [delL_len _ _ hd.1.1]; omega) r.hi (hl r hr).2.1 s w hT).mono ?_
  rintro e w' ⟨hb, rfl⟩
  rw [hd.2]
  exact ⟨rfl, hb⟩
theorem InR.cells {w : World} {g off n cap : Nat} {L : List RG} (h : InR w (.slice (some ⟨g, off, none⟩) n cap) L) : ∀ j u, (cellsL L)[j]? = some u → w.cell? ((⟨g, off, none⟩ : Addr).add j) = some u := by
  obtain ⟨a', cap', he, _, hc⟩ := h
  injection he with he1 he2 he3
  intro j u hu
  have hj : j < L.length * 6 := by
    rw [← cellsL_len]
    exact (List.getElem?_eq_some_iff.1 hu).1
  have hi : j / 6 < L.length := by omega
  obtain ⟨g', off', h1, h2, h3⟩ := hc (j / 6) hi
  rw [← he1] at h1
  injection h1 with h1
  injection h1 with h1a h1b
  subst h1a h1b
  have e : j = j / 6 * 6 + j % 6 := by omega
  rw [e, cellsL_get L (j / 6) hi (j % 6) (by omega)] at hu
  have := h3 (j % 6) u hu
  rw [Addr.add_mid, e, ← Nat.add_assoc]
  exact this
/-- A step that leaves what lies below. -/
def SZ (w W : World) : Prop := Below w.heap.size w W
theorem SZ.dr (w : World) : SZ w w.drew := (Below.refl _ _).drew
theorem SZ.next {w W W' : World} (h : SZ w W) (hb : Below W.heap.size W W') : SZ w W' := Below.trans h (hb.mono (Below.size h))
theorem SZ.al {w W : World} (h : SZ w W) (o : Obj) : SZ w (W.alloc o) := SZ.next h ((Below.refl _ _).alloc (Nat.le_refl _) o)
theorem SZ.size {w W : World} (h : SZ w W) : w.heap.size ≤ W.heap.size := Below.size h
theorem SZ.grown {w W W' : World} (h : SZ w W) (hb : Below w.heap.size W W') : SZ w W' := Below.trans h hb
theorem SZ.set {w W : World} (h : SZ w W) {g : Nat} (hg : w.heap.size ≤ g) (v : Value) : SZ w (W.setCell ⟨g, 0, none⟩ v) := Below.setCell h (p := ⟨g, 0, none⟩) hg v
theorem wp_join {ι : Type} {P : Program} {id : Nat} {ops : Array Oper} {b : Bool} {Q : Exit → Act → World → Prop} {a : Act} {w : World} (fr : Act → ι → Act) (Post : ι → World → Prop)
    (h1 : (Code.region id ops b).wp P (fun e a' w' => e = .normal ∧ ∃ g, a' = fr a g ∧ Post g w') a w) (h2 : ∀ g w', Post g w' → Q .normal (fr a g) w') : (Code.region id ops b).wp P Q a w :=
  Code.wp_mono (fun e a' w' h => by obtain ⟨rfl, g, rfl, hp⟩ := h; exact h2 g w' hp) h1
/-- What a round has in memory: the table's box, the table, the range at hand. -/
def RW (w6 : World) (tb : Nat) (st : Value) (t : List RG) (r : RG) (g : Nat) (W : World) : Prop := SZ w6 W ∧ Row W tb 27 [st] ∧ TBL W st t ∧ Row W g 30 r.cells
theorem RW.next {w6 W W' : World} {tb : Nat} {st : Value} {t : List RG} {r : RG} {g : Nat} (h : RW w6 tb st t r g W) (hb : Below W.heap.size W W') : RW w6 tb st t r g W' :=
  ⟨h.1.next hb, h.2.1.below hb h.2.1.lt, h.2.2.1.below hb, h.2.2.2.below hb h.2.2.2.lt⟩
theorem RW.al {w6 W : World} {tb : Nat} {st : Value} {t : List RG} {r : RG} {g : Nat} (h : RW w6 tb st t r g W) (o : Obj) : RW w6 tb st t r g (W.alloc o) := h.next ((Below.refl _ _).alloc (Nat.le_refl _) o)
/-- Ranges behind a row of one's own. -/
theorem append_rs {B : Nat} {W : World} {v : Value} {xs : List RG} (hO : OWN B W v xs) (hB : B ≤ W.heap.size) (A : Addr) (m c : Nat) (ys : List RG) (hm : m = ys.length) (hc : ∀ j u, (cellsL ys)[j]? = some u → W.cell? (A.add j) = some u) (hl : xs.length + ys.length ≤ 1000) :
    ∃ v' w', (Builtin.append_ #[25, 25] 25 #[v, .slice (some A) m c]).run Tryz.prog W = .ok v' w' ∧ OWN B w' v' (xs ++ ys) ∧ Below B W w' ∧ (∀ k, v.ownBlock ≠ some k → k < W.heap.size → w'.heap[k]? = W.heap[k]?) := by
  obtain ⟨i0, z0, hi, hz0, hz1, hz2, hz3⟩ := range_info
  have u36 := Tryz.underlying25
  subst hm
  obtain ⟨v', w', hr, h2, h3, _⟩ := run_append_own (P := Tryz.prog) W B 25 25 30 i0 z0 6 88 u36 hi hz0 hz1 hz2 hz3 (by decide) v xs.length (cellsL xs) hO A ys.length c (cellsL ys) (cellsL_len ys) hc (cellsL_one ys) (by unfold maxLen; omega) (by omega) hB
  refine ⟨v', w', hr, ?_, (Below.refl _ _).grown h3 hB ?_, fun k hk hl => h3.block k hl (fun e => hk e.symm)⟩
  · unfold OWN
    rw [List.length_append, cellsL_append]
    exact h2
  · intro k hk
    exact (hO.lt k hk).1
theorem append_none {B : Nat} {W : World} {v : Value} {xs : List RG} (hO : OWN B W v xs) (c : Nat) :
    (Builtin.append_ #[25, 25] 25 #[v, .slice none 0 c]).run Tryz.prog W = .ok v W := by
  obtain ⟨i0, z0, hi, hz0, hz1, hz2, hz3⟩ := range_info
  have u36 := Tryz.underlying25
  rcases hO.2 with ⟨rfl, h0⟩ | ⟨g, cap, cur, rfl, hBg, hg, hnc, hcm, hcs, htk⟩
  · simp [Builtin.append_, run_underlying u36, sizeOf, typeInfo, hi, Builtin.lenOf, Builtin.firstCells]
  · simp [Builtin.append_, run_underlying u36, sizeOf, typeInfo, hi, Builtin.lenOf, Builtin.firstCells, hnc, storeCells]
theorem OWN.ne_row {B : Nat} {w : World} {s : Value} {l : List RG} {b : Nat} {z : List Value} (h : OWN B w s l) (hr : Row w b 27 z) : s.ownBlock ≠ some b := by
  intro e
  rcases h.2 with ⟨rfl, _⟩ | ⟨g, cap, cur, rfl, hBg, hg, hnc, hcm, hcs, htk⟩
  · simp [Value.ownBlock] at e
  · simp [Value.ownBlock] at e
    subst e
    unfold Row at hr
    rw [hr] at hg
    injection hg with hg
    injection hg with hga hgb hgc
    exact absurd hgb (by decide)
/-- A table that lies elsewhere than what is written to. -/
theorem TBL.store {w : World} {s v : Value} {t : List RG} {b : Nat} {z : List Value} (h : TBL w s t) (hr : Row w b 27 z) : TBL (w.setCell ⟨b, 0, none⟩ v) s t := by
  refine ⟨h.1, ?_⟩
  rcases h.2 with h0 | ⟨g, cap', cur, h1, h2, h3, h4⟩
  · exact Or.inl h0
  · refine Or.inr ⟨g, cap', cur, h1, h2, (Below.heap_setCell _ ⟨b, 0, none⟩ _ g ?_).trans h3, h4⟩
    show g ≠ b
    intro e
    unfold Row at hr
    rw [e, hr] at h3
    injection h3 with h3
    injection h3 with h3a h3b h3c
    exact absurd h3b (by decide)
end Go.Proofs.YtldjnegoefdadaaGreatDoor

namespace Go.Proofs.YtldjnegoefdadaaGreatDoor
open Go.RowKit
set_option linter.unusedVariables false

theorem range_fields : Tryz.prog.fieldsOf 30 = #[{ name := "From", type := 9, offset := 0, embedded := false, tag := "", pkgPath := "", byteOffset := 0 }, { name := "To", type := 9, offset := 1, embedded := false, tag := "", pkgPath := "", byteOffset := 16 },
  { name := "ACS", type := 9, offset := 2, embedded := false, tag := "", pkgPath := "", byteOffset := 32 }, { name := "Low", type := 9, offset := 3, embedded := false, tag := "", pkgPath := "", byteOffset := 48 },
  { name := "High", type := 9, offset := 4, embedded := false, tag := "", pkgPath := "", byteOffset := 64 }, { name := "Mode", type := 3, offset := 5, embedded := false, tag := "", pkgPath := "", byteOffset := 80 }] := by kernel_rfl
theorem rg_ext (r q : RG) : r = q ↔ (r.lo = q.lo ∧ r.hi = q.hi ∧ r.acs = q.acs ∧ r.low = q.low ∧ r.high = q.high ∧ r.mode = q.mode) := by
  cases r; cases q
  simp
instance : DecidableEq RG := fun r q => decidable_of_iff _ (rg_ext r q).symm
theorem tl_inj (a b : ByteArray) : a.toList = b.toList ↔ a = b := by
  constructor
  · intro h
    rw [ByteArray.toList_eq, ByteArray.toList_eq] at h
    obtain ⟨⟨x⟩⟩ := a
    obtain ⟨⟨y⟩⟩ := b
    simp only at h
    rw [h]
  · rintro rfl; rfl
theorem req_in (r q : RG) (W : World) :
    (Op.equalIn 10000 30 (.agg #[.string r.lo, .string r.hi, .string r.acs, .string r.low, .string r.high, .int .i64 r.mode]) (.agg #[.string q.lo, .string q.hi, .string q.acs, .string q.low, .string q.high, .int .i64 q.mode])).run Tryz.prog W = .ok (decide (r = q)) W := by
  have aS := Tryz.isAgg9
  have aI := Tryz.isAgg3
  have hd : decide (r = q) = decide (r.lo = q.lo ∧ r.hi = q.hi ∧ r.acs = q.acs ∧ r.low = q.low ∧ r.high = q.high ∧ r.mode = q.mode) := decide_eq_decide.2 (rg_ext r q)
  rw [run_equalIn_struct W 9999 _ _ _ (by rw [range_fields]; exact Tryz.underlying30) (by kernel_rfl), range_fields, hd]
  simp [Op.eqFields, part, aS, aI, run_equalIn_int, run_equalIn_string, Tryz.underlying9, Tryz.underlying3, tl_inj]
  by_cases h1 : r.lo = q.lo
  · by_cases h2 : r.hi = q.hi
    · by_cases h3 : r.acs = q.acs
      · by_cases h4 : r.low = q.low
        · by_cases h5 : r.high = q.high
          · by_cases h6 : r.mode = q.mode <;> simp [h1, h2, h3, h4, h5, h6]
          · simp [h1, h2, h3, h4, h5]
        · simp [h1, h2, h3, h4]
      · simp [h1, h2, h3]
    · simp [h1, h2]
  · simp [h1]
theorem req_eql (r q : RG) (W : World) :
    (binOp .eql 30 (.agg #[.string r.lo, .string r.hi, .string r.acs, .string r.low, .string r.high, .int .i64 r.mode]) (.agg #[.string q.lo, .string q.hi, .string q.acs, .string q.low, .string q.high, .int .i64 q.mode])).run Tryz.prog W = .ok (.bool (decide (r = q))) W := by
  rw [run_eql_struct, req_in]
  rfl
theorem req_neq (r q : RG) (W : World) :
    (binOp .neq 30 (.agg #[.string r.lo, .string r.hi, .string r.acs, .string r.low, .string r.high, .int .i64 r.mode]) (.agg #[.string q.lo, .string q.hi, .string q.acs, .string q.low, .string q.high, .int .i64 q.mode])).run Tryz.prog W = .ok (.bool (!decide (r = q))) W := by
  rw [run_neq_struct, req_in]
  rfl

set_option maxRecDepth 4000 in
set_option maxHeartbeats 4000000 in
theorem Equal_any (la lb : List RG) (h64 : la.length ≤ 64) (s u : Value) (w : World) (hS : TBL w s la) (hU : TBL w u lb) :
    Calls Tryz.prog 47 #[s, u] w fun e w' => e = .returned (.bool (decide (la = lb))) ∧ Below w.heap.size w w' := by
  obtain ⟨a, ca, rfl⟩ := hS.slice
  obtain ⟨c, cb, rfl⟩ := hU.slice
  have HS := Lib.hid hS
  have HU := Lib.hid hU
  obtain ⟨R, hR⟩ : ∃ R, decide (la = lb) = R := ⟨_, rfl⟩
  rw [hR]
  have HR := Lib.hid hR
  clear hS hU hR
  by_cases hlen : la.length = lb.length
  · have HL := Lib.hid hlen
    rw [← hlen]
    have hU2 := HU.out
    rw [← hlen] at hU2
    have HU := Lib.hid hU2
    clear hU2 hlen
    go_enter Tryz.func47, Tryz.ntmps47
    go_wp2
    go_loopw [13] (fun i wr => ∃ j : Nat, j ≤ la.length ∧ i = .int .i64 j ∧ Hid (la.take j = lb.take j ∧ Below w.heap.size w wr)) (fun i _ => la.length - (intOf i).toNat)
    case atStart => exact ⟨0, Nat.zero_le _, rfl, Lib.hid ⟨rfl, Below.refl _ _⟩⟩
    case round =>
      obtain ⟨j, hj, rfl, HW⟩ := hrel
      by_cases hlt : j < la.length
      · have hltI : (j : Int) < (la.length : Int) := by omega
        have hltB : j < lb.length := by rw [← HL.out]; exact hlt
        obtain ⟨g, cap', he, hg, hrng⟩ := (HS.out.below HW.out.2).cell j hlt
        injection he with he1 he2 he3
        subst he1 he3
        obtain ⟨g2, cap2, he, hg2, hrng2⟩ := (HU.out.below HW.out.2).cell j hltB
        injection he with he1 he2 he3
        subst he1 he3
        clear he2
        have p0 := hrng 0 _ rfl
        have p1 := hrng 1 _ rfl
        have p2 := hrng 2 _ rfl
        have p3 := hrng 3 _ rfl
        have p4 := hrng 4 _ rfl
        have p5 := hrng 5 _ rfl
        have q0 := hrng2 0 _ rfl
        have q1 := hrng2 1 _ rfl
        have q2 := hrng2 2 _ rfl
        have q3 := hrng2 3 _ rfl
        have q4 := hrng2 4 _ rfl
        have q5 := hrng2 5 _ rfl
        rw [Nat.add_zero] at p0 q0
        have HTa := Lib.hid (List.take_succ_eq_append_getElem hlt)
        have HTb := Lib.hid (List.take_succ_eq_append_getElem hltB)
        have HNE : Hid (la[j] ≠ lb[j]'hltB → R = false) := Lib.hid fun h => by
          rw [← HR.out]
          refine decide_eq_false fun h2 => h ?_
          subst h2
          rfl
        have hneq := fun W => req_neq la[j] (lb[j]'hltB) W
        clear hrng hrng2
        obtain ⟨x, hx⟩ : ∃ x, la[j] = x := ⟨_, rfl⟩
        obtain ⟨y, hy⟩ : ∃ y, lb[j]'hltB = y := ⟨_, rfl⟩
        rw [hx] at p0 p1 p2 p3 p4 p5 HTa HNE hneq
        rw [hy] at q0 q1 q2 q3 q4 q5 HTb HNE hneq
        clear hx hy hltB
        by_cases hxy : x = y
        · rw [decide_eq_true hxy] at hneq
          go_wp2_with fail
          go_quiet (fail)
          go_wp2_with fail
          go_roundw
          case rel => exact ⟨j + 1, by omega, by go_num, Lib.hid ⟨by rw [HTa.out, HTb.out, HW.out.1, hxy], below_dr HW.out.2 _⟩⟩
          case measure => simp [intOf]; omega
        · rw [decide_eq_false hxy] at hneq
          have HRF := Lib.hid (HNE.out hxy)
          go_wp2_with fail
          go_quiet (fail)
          go_wp2_with fail
          try rw [Exit.noGoto_ret]
          go_ret
          exact ⟨ret_boolE HRF.out.symm, below_dr HW.out.2 _⟩
      · have hltI : ¬ (j : Int) < (la.length : Int) := by omega
        have HRT : Hid (R = true) := Lib.hid (by
          rw [← HR.out]
          refine decide_eq_true ?_
          have h := HW.out.1
          rwa [List.take_of_length_le (by omega), List.take_of_length_le (by rw [← HL.out]; omega)] at h)
        go_wp2_with fail
        go_ret
        exact ⟨ret_boolE HRT.out.symm, HW.out.2⟩
  · have hq : ((la.length : Int) != (lb.length : Int)) = true := by rw [bne_iff_ne]; omega
    have HRF : Hid (R = false) := Lib.hid (by
      rw [← HR.out]
      exact decide_eq_false fun h => hlen (by rw [h]))
    go_enter Tryz.func47, Tryz.ntmps47
    go_wp2
    go_ret
    exact ⟨ret_boolE HRF.out.symm, Below.refl _ _⟩
end Go.Proofs.YtldjnegoefdadaaGreatDoor

namespace Go.Proofs.YtldjnegoefdadaaGreatDoor
open Go.RowKit
set_option linter.unusedVariables false

set_option maxHeartbeats 1000000 in
theorem Same_any (la lb : List RG) (h64 : la.length ≤ 64) (s u : Value) (w : World) (hS : TBL w s la) (hU : TBL w u lb) :
    Calls Tryz.prog 21 #[.agg #[s], .agg #[u]] w fun e w' => e = .returned (.bool (decide (la = lb))) ∧ Below w.heap.size w w' := by
  have B0 := ((Below.refl w.heap.size w).alloc (Nat.le_refl _) (.cells [s].toArray 27)).alloc (by simp) (.cells [u].toArray 27)
  have HE := Lib.hid (fun W h1 h2 => Equal_any la lb h64 s u W h1 h2)
  have HS := Lib.hid (hS.below B0)
  have HU := Lib.hid (hU.below B0)
  have HB0 := Lib.hid B0
  obtain ⟨R, hR⟩ : ∃ R, decide (la = lb) = R := ⟨_, rfl⟩
  rw [hR] at HE ⊢
  obtain ⟨a, ca, rfl⟩ := hS.slice
  obtain ⟨c, cb, rfl⟩ := hU.slice
  clear hS hU hR B0
  go_enter Tryz.func21, Tryz.ntmps21
  go_wp2_with fail
  refine (HE.out _ HS.out HU.out).mono ?_
  rintro e w1 ⟨rfl, hb⟩
  have B1 := Lib.hid (HB0.out.trans (hb.mono HB0.out.size))
  clear hb
  go_wp2
  go_ret
  exact ⟨rfl, B1.out⟩
end Go.Proofs.YtldjnegoefdadaaGreatDoor

namespace Go.Proofs.YtldjnegoefdadaaGreatDoor
open Go.RowKit Go.Shelf
set_option linter.unusedVariables false
set_option linter.unusedSimpArgs false

theorem InR.at {w : World} {a : Option Addr} {n cap : Nat} {L : List RG} (h : InR w (.slice a n cap) L) (i : Nat) (hi : i < L.length) : ∃ g off, a = some ⟨g, off, none⟩ ∧ g < w.heap.size ∧ w.rangeAt g (off + i * 6) L[i].cells := by
  obtain ⟨a', cap', he, _, hc⟩ := h
  injection he with he1 he2 he3
  subst he1
  exact hc i hi
theorem InR.len {w : World} {a : Option Addr} {n cap : Nat} {L : List RG} (h : InR w (.slice a n cap) L) : n = L.length := by
  obtain ⟨a', cap', he, _, hc⟩ := h
  injection he

set_option maxRecDepth 100000 in
set_option maxHeartbeats 40000000 in
theorem RangesOrder_walk (s0 : Value) (L : List RG) (by1 : Int) (w : World) (w0 : InR w s0 L) (n0 : L.length ≤ 9223372036854775807) (m0 : ∀ r ∈ L, -9223372036854775808 ≤ r.mode ∧ r.mode ≤ 9223372036854775807) (w1 : (Lit.int .u8 by1).wf = true) (hG : VG w) (hN : NV w) :
    Calls Tryz.prog 4 #[s0, .int .u8 by1] w fun e w' => e = .returned (.bool true) ∧ Below w.heap.size w w' := by
  obtain ⟨a, cap, rfl, hlc, hin⟩ := w0
  have HIN : Hid (InR w (.slice a L.length cap) L) := Lib.hid ⟨a, cap, rfl, hlc, hin⟩
  have hby : 0 ≤ by1 ∧ by1 ≤ 255 := by simpa [Lit.wf, IntKind.min, IntKind.max, IntKind.signed, IntKind.bits] using w1
  obtain ⟨b, hb⟩ : ∃ b, w.heap.size = b := ⟨_, rfl⟩
  have HVG : Hid (∀ W, Below b w W → VG W) := Lib.hid fun W h => hG.below (by rw [hb]; exact h)
  have HI : Hid (∀ W, Below b w W → InR W (.slice a L.length cap) L) := Lib.hid fun W h => HIN.out.below (by rw [hb]; exact h)
  have HM := Lib.hid m0
  have HG := Lib.hid hG
  have HN := Lib.hid hN
  clear hG hN w1 hin m0
  go_enter Tryz.func4, Tryz.ntmps4
  go_wp2_with fail
  refine (awake18_any _ HG.out HN.out).mono ?_
  rintro e w2 ⟨rfl, hb2⟩
  have B2 : Hid (Below b w w2) := Lib.hid (by rw [← hb]; exact hb2)
  clear hb2
  by_cases h20 : 20 < L.length
  · have h20I : (20 : Int) < (L.length : Int) := by omega
    go_wp2
    go_ret
    exact ⟨rfl, by rw [hb]; exact B2.out⟩
  · have h20I : ¬ (20 : Int) < (L.length : Int) := by omega
    go_wp2
    go_loopw [29] (fun i wr => ∃ j : Nat, j ≤ L.length ∧ i = .int .i64 j ∧ Hid ((∀ k (h : k < L.length), k < j → lightB L[k] = true) ∧ Below b w wr)) (fun i _ => L.length - (intOf i).toNat)
    case atStart => exact ⟨0, Nat.zero_le _, rfl, Lib.hid ⟨fun k h hk => absurd hk (Nat.not_lt_zero k), B2.out⟩⟩
    case round =>
      obtain ⟨j, hj, rfl, HW⟩ := hrel
      by_cases hlt : j < L.length
      · have hltI : (j : Int) < (L.length : Int) := by omega
        obtain ⟨g, off, rfl, hg, hrng⟩ := (HI.out _ HW.out.2).at j hlt
        have p0 := hrng 0 _ rfl
        have p1 := hrng 1 _ rfl
        have p2 := hrng 2 _ rfl
        have p3 := hrng 3 _ rfl
        have p4 := hrng 4 _ rfl
        have p5 := hrng 5 _ rfl
        rw [Nat.add_zero] at p0
        have HL := Lib.hid (fun W => Light_any L[j] W)
        obtain ⟨x, hx⟩ : ∃ x, L[j] = x := ⟨_, rfl⟩
        obtain ⟨lx, hlx⟩ : ∃ lx, lightB x = lx := ⟨_, rfl⟩
        have HXE := Lib.hid hx
        rw [hx] at p0 p1 p2 p3 p4 p5 HL
        rw [hlx] at HL
        have HLX := Lib.hid hlx
        clear hrng hx hlx
        have hbz : b ≤ wr.heap.size := by rw [← hb]; exact (by have := HW.out.2.size; exact this)
        go_wp2_with fail
        have ha : Below wr.heap.size wr (wr.alloc (.cells #[.string x.lo, .string x.hi, .string x.acs, .string x.low, .string x.high, .int .i64 x.mode] 30)) := (Below.refl _ _).alloc (Nat.le_refl _) _
        refine (HL.out _).mono ?_
        rintro e w3 ⟨rfl, hb3⟩
        have B3 : Hid (Below b w w3) := Lib.hid (HW.out.2.trans ((ha.trans (hb3.mono ha.size)).mono hbz))
        clear ha hb3 p0 p1 p2 p3 p4 p5
        cases lx with
        | false =>
          go_wp2
          try rw [Exit.noGoto_ret]
          go_ret
          exact ⟨rfl, by rw [hb]; exact B3.out⟩
        | true =>
          go_wp2_with fail
          go_roundw
          case rel =>
            refine ⟨j + 1, by omega, by go_num, Lib.hid ⟨fun k h hk => ?_, B3.out⟩⟩
            by_cases hkj : k = j
            · subst hkj
              rw [HXE.out]; exact HLX.out
            · exact HW.out.1 k h (by omega)
          case measure => simp [intOf]; omega
      · have hltI : ¬ (j : Int) < (L.length : Int) := by omega
        have HLT : Hid (∀ r ∈ L, r.light) := Lib.hid fun r hr => by
          obtain ⟨k, hk, rfl⟩ := List.getElem_of_mem hr
          have h := HW.out.1 k hk (by omega)
          unfold lightB at h
          have h2 := of_decide_eq_true h
          have h3 := HM.out _ hr
          exact ⟨by omega, by omega, by omega, by omega, by omega, h3.1, h3.2⟩
        have HNew := Lib.hid (fun W h1 h2 => New_in L HLT.out (by omega) (tab_stands L) (.slice a L.length cap) W h1 h2)
        go_wp2_with fail
        refine (HNew.out _ (HVG.out _ HW.out.2) (HI.out _ HW.out.2)).mono ?_
        rintro e w4 ⟨hb4, hcase⟩
        have hbz : b ≤ wr.heap.size := by rw [← hb]; exact (by have := HW.out.2.size; exact this)
        have B4 : Hid (Below b w w4) := Lib.hid (HW.out.2.trans (hb4.mono hbz))
        have hbz4 : b ≤ w4.heap.size := Nat.le_trans hbz hb4.size
        clear hb4
        rcases hcase with ⟨i, hi, t, ht, hne, rfl⟩ | ⟨t, st, ht, rfl, hT⟩
        · obtain ⟨er, her⟩ : ∃ er, errA t L[i] = er := ⟨_, rfl⟩
          rw [her] at hne ⊢
          have heb : (er != 0) = true := by rw [bne_iff_ne]; exact hne
          have HLen := Lib.hid (fun W => Len_any [] (.slice none 0 0) W (TBL.nil W))
          clear her ht hne
          go_wp2_with fail
          refine (HLen.out _).mono ?_
          rintro e w5 ⟨rfl, hb5⟩
          go_wp2
          go_ret
          exact ⟨rfl, by rw [hb]; exact (B4.out.alloc hbz4 _).trans (hb5.mono (by rw [World.size_alloc]; omega))⟩
        · obtain ⟨ta, tn, tc, rfl⟩ : ∃ a n c, st = Value.slice a n c := (by obtain ⟨a, c, h⟩ := hT.slice; exact ⟨a, _, c, h⟩)
          have HTT := Lib.hid hT
          have HTN := Lib.hid ht
          clear hT ht
          have HBY := Lib.hid hby
          have hk : ∃ k : Nat, k ≤ L.length ∧ ((0 < L.length ∧ k < L.length ∧ Int.tmod by1 (L.length : Int) = (k : Int)) ∨ (L.length = 0 ∧ k = 0)) := by
            by_cases h0 : 0 < L.length
            · refine ⟨(Int.tmod by1 (L.length : Int)).toNat, ?_, Or.inl ⟨h0, ?_, ?_⟩⟩
              · have h1 := Int.tmod_eq_emod_of_nonneg (b := (L.length : Int)) hby.1
                have h2 := Int.emod_lt_of_pos by1 (b := (L.length : Int)) (by omega)
                have h3 := Int.emod_nonneg by1 (b := (L.length : Int)) (by omega)
                omega
              · have h1 := Int.tmod_eq_emod_of_nonneg (b := (L.length : Int)) hby.1
                have h2 := Int.emod_lt_of_pos by1 (b := (L.length : Int)) (by omega)
                have h3 := Int.emod_nonneg by1 (b := (L.length : Int)) (by omega)
                omega
              · have h1 := Int.tmod_eq_emod_of_nonneg (b := (L.length : Int)) hby.1
                have h3 := Int.emod_nonneg by1 (b := (L.length : Int)) (by omega)
                omega
            · exact ⟨0, Nat.zero_le _, Or.inr ⟨by omega, rfl⟩⟩
          obtain ⟨k, hkl, hk⟩ := hk
          rcases hk with ⟨h0, hkL, hk⟩ | ⟨h0, rfl⟩
          · have h0I : (0 : Int) < (L.length : Int) := by omega
            have hnz : ¬ (L.length = 0) := by omega
            obtain ⟨g, off, rfl, hg0, _⟩ := HIN.out.at 0 h0
            have B5 : Hid (Below b w (w4.alloc (.cells #[.slice ta tn tc] 27))) := Lib.hid (B4.out.alloc hbz4 _)
            have R5 : Row (w4.alloc (.cells #[.slice ta tn tc] 27)) w4.heap.size 27 [.slice ta tn tc] := Row.self w4 _ _
            have T5 : TBL (w4.alloc (.cells #[.slice ta tn tc] 27)) (.slice ta tn tc) t := HTT.out.below ((Below.refl _ _).alloc (Nat.le_refl _) _)
            have hbz5 : b ≤ (w4.alloc (.cells #[.slice ta tn tc] 27)).heap.size := by rw [World.size_alloc]; omega
            generalize hw5 : w4.alloc (.cells #[.slice ta tn tc] 27) = w5 at B5 R5 T5 hbz5
            have HW5 := Lib.hid hw5
            have HR5 := Lib.hid R5
            have HT5 := Lib.hid T5
            clear hw5 R5 T5
            have HC0 : Hid (∀ W, SZ w5 W → InR W (.slice (some ⟨g, off, none⟩) L.length cap) L) := Lib.hid fun W h => HI.out W (B5.out.trans (Below.mono h hbz5))
            have HC2 : Hid (∀ W, SZ w5 W → ∀ j u, (cellsL (L.take k))[j]? = some u → W.cell? ((⟨g, off, none⟩ : Addr).add j) = some u) := Lib.hid fun W h j u hu => by
              refine (HC0.out W h).cells j u ?_
              rw [cellsL_take, List.getElem?_take] at hu
              split at hu
              · exact hu
              · cases hu
            obtain ⟨A1, hA1, HC1⟩ : ∃ A : Addr, (if cap = k then some (⟨g, off, none⟩ : Addr) else some ⟨g, off + k * 6, none⟩) = some A ∧ Hid (∀ W, SZ w5 W → ∀ j u, (cellsL (L.drop k))[j]? = some u → W.cell? (A.add j) = some u) := by
              by_cases hck : cap = k
              · exfalso; omega
              · refine ⟨⟨g, off + k * 6, none⟩, by rw [if_neg hck], Lib.hid fun W h j u hu => ?_⟩
                rw [cellsL_drop, List.getElem?_drop] at hu
                have := (HC0.out W h).cells (k * 6 + j) u hu
                rw [Addr.add_mid] at this ⊢
                rw [Nat.add_assoc]
                exact this
            have HVG4 : Hid (∀ W, SZ w5 W → VG W) := Lib.hid fun W h => HVG.out W (B5.out.trans (Below.mono h hbz5))
            have HNP := Lib.hid (fun s W h1 h2 => New_perm L (L.drop k ++ L.take k) t (fun r hr => HLT.out r hr) (by omega) (by
              have h := @List.perm_append_comm _ (L.take k) (L.drop k)
              rwa [List.take_append_drop] at h) HTN.out s W h1 h2)
            have hkc : k ≤ cap := by omega
            have hkcI : (k : Int) ≤ (cap : Int) := by omega
            have hklI : (k : Int) ≤ (L.length : Int) := by omega
            go_wp2_with fail
            try rw [HW5.out]
            refine wp_join (ι := Value × Value × Value × Value × Nat) (fun a9 z => (((((((((((((((a9.put (some 57) (.slice (some ⟨g, off, none⟩) L.length cap)).put (some 58) (.int .i64 (k : Nat))).put (some 59) (.slice (some A1) (L.length - k) (cap - k))).put (some 61) (.slice (some ⟨g, off, none⟩) L.length cap)).put (some 62) (.int .i64 (k : Nat))).put (some 63) (.slice (some ⟨g, off, none⟩) k cap)).put (some 56) (z.1)).put (some 60) (z.2.1)).put (some 64) (z.2.2.1)).put (some 65) ((.tuple #[.agg #[z.2.2.2.1], .int .i64 0]))).put (some 55) ((.tuple #[.agg #[z.2.2.2.1], .int .i64 0]))).put (some 66) ((.agg #[z.2.2.2.1]))).put (some 67) (.int .i64 0)).put (some 10) (.pointer (some ⟨z.2.2.2.2, 0, none⟩))).put (some 11) (.int .i64 0)))
              (fun z w' => Row w' z.2.2.2.2 27 [z.2.2.2.1] ∧ TBL w' z.2.2.2.1 t ∧ SZ w5 w') ?_ ?_
            · refine wp_region_noPanic ?_
              refine wp_region_held_drew (S := fun W => SZ w5 W) (by kernel_rfl) (SZ.dr w5) (fun hHeld => ?_)
              have S0 := SZ.dr w5
              generalize hY0 : w5.drew = Y0 at S0 hHeld ⊢
              clear hY0
              refine wpAnyH_take (i := 1) (oi := { dst := some 57, op := Op.move (Operand.tmp 0), type := 25, pos := "law.go:140", after := #[], guard := none }) (v := ?vvz1_1) rfl (by kernel_rfl) (by kernel_rfl) (by kernel_rfl) (fun _ _ _ h => h) (Or.inl ⟨by rfl, ?yyz1_1⟩) hHeld ?_
              case vvz1_1 => exact .slice (some ⟨g, off, none⟩) L.length cap
              case yyz1_1 =>
                intro W hS
                go_simp
              try simp only [Act.put, List.setIfInBounds_toArray, List.set_cons_zero, List.set_cons_succ]
              refine wpAnyH_take (i := 2) (oi := { dst := some 58, op := Op.move (Operand.tmp 9), type := 3, pos := "law.go:140", after := #[], guard := none }) (v := ?vvz2_2) rfl (by kernel_rfl) (by kernel_rfl) (by kernel_rfl) (fun _ _ _ h => h) (Or.inl ⟨by rfl, ?yyz2_2⟩) hHeld ?_
              case vvz2_2 => exact .int .i64 (k : Nat)
              case yyz2_2 =>
                intro W hS
                go_simp
              try simp only [Act.put, List.setIfInBounds_toArray, List.set_cons_zero, List.set_cons_succ]
              refine wpAnyH_take (i := 3) (oi := { dst := some 59, op := Op.slice 25 (Operand.tmp 57) (some (Operand.tmp 58)) none none, type := 25, pos := "law.go:140", after := #[{ on := 1, ground := Ground.data }, { on := 2, ground := Ground.data }], guard := none }) (v := ?vvz3_3) rfl (by kernel_rfl) (by kernel_rfl) (by kernel_rfl) (fun _ _ _ h => h) (Or.inl ⟨by rfl, ?yyz3_3⟩) hHeld ?_
              case vvz3_3 => exact .slice (some A1) (L.length - k) (cap - k)
              case yyz3_3 =>
                intro W hS
                go_simp
              try simp only [Act.put, List.setIfInBounds_toArray, List.set_cons_zero, List.set_cons_succ]
              refine wpAnyH_take (i := 5) (oi := { dst := some 61, op := Op.move (Operand.tmp 0), type := 25, pos := "law.go:140", after := #[], guard := none }) (v := ?vvz4_5) rfl (by kernel_rfl) (by kernel_rfl) (by kernel_rfl) (fun _ _ _ h => h) (Or.inl ⟨by rfl, ?yyz4_5⟩) hHeld ?_
              case vvz4_5 => exact .slice (some ⟨g, off, none⟩) L.length cap
              case yyz4_5 =>
                intro W hS
                go_simp
              try simp only [Act.put, List.setIfInBounds_toArray, List.set_cons_zero, List.set_cons_succ]
              refine wpAnyH_take (i := 6) (oi := { dst := some 62, op := Op.move (Operand.tmp 9), type := 3, pos := "law.go:140", after := #[], guard := none }) (v := ?vvz5_6) rfl (by kernel_rfl) (by kernel_rfl) (by kernel_rfl) (fun _ _ _ h => h) (Or.inl ⟨by rfl, ?yyz5_6⟩) hHeld ?_
              case vvz5_6 => exact .int .i64 (k : Nat)
              case yyz5_6 =>
                intro W hS
                go_simp
              try simp only [Act.put, List.setIfInBounds_toArray, List.set_cons_zero, List.set_cons_succ]
              refine wpAnyH_take (i := 7) (oi := { dst := some 63, op := Op.slice 25 (Operand.tmp 61) none (some (Operand.tmp 62)) none, type := 25, pos := "law.go:140", after := #[{ on := 5, ground := Ground.data }, { on := 6, ground := Ground.data }], guard := none }) (v := ?vvz6_7) rfl (by kernel_rfl) (by kernel_rfl) (by kernel_rfl) (fun _ _ _ h => h) (Or.inl ⟨by rfl, ?yyz6_7⟩) hHeld ?_
              case vvz6_7 => exact .slice (some ⟨g, off, none⟩) k cap
              case yyz6_7 =>
                intro W hS
                go_simp
              try simp only [Act.put, List.setIfInBounds_toArray, List.set_cons_zero, List.set_cons_succ]
              refine wpAnyH_ready (rs := [0, 13]) (by kernel_rfl) (by simp) (AllReadyH.cons (o := { dst := some 56, op := Op.buildSlice 25 0 #[], type := 25, pos := "law.go:140", after := #[], guard := none }) rfl (fun K hK => ?_) (AllReadyH.cons (o := { dst := some 10, op := Op.alloc 27, type := 0, pos := "law.go:140", after := #[], guard := none }) rfl (fun K hK => ?_) AllReadyH.nil))
              · go_simp
                have S1 := SZ.al S0 (.cells #[] 30)
                have O1 : OWN w5.heap.size (Y0.alloc (.cells #[] 30)) (.slice (some ⟨Y0.heap.size, 0, none⟩) 0 0) [] := OWN.weak (World.ownsRow_made (size := 6) Y0 #[] 0 (Nat.le_refl _) (Nat.zero_le _) rfl) S0.size
                generalize hY1 : Y0.alloc (.cells #[] 30) = Y1 at S1 O1 ⊢
                clear hY1
                refine hK.out _ _ S1 (fun hHeld => ?_)
                clear hK K
                try simp only [Act.put, List.setIfInBounds_toArray, List.set_cons_zero, List.set_cons_succ]
                refine wpAnyH_ready (rs := [4, 13]) (by kernel_rfl) (by simp) (AllReadyH.cons (o := { dst := some 60, op := Op.call { callee := Callee.builtin Builtin.append, args := #[Operand.tmp 56, Operand.tmp 59], argTypes := #[25, 25] }, type := 25, pos := "law.go:140", after := #[{ on := 0, ground := Ground.data }, { on := 3, ground := Ground.data }], guard := none }) rfl (fun K hK => ?_) (AllReadyH.cons (o := { dst := some 10, op := Op.alloc 27, type := 0, pos := "law.go:140", after := #[], guard := none }) rfl (fun K hK => ?_) AllReadyH.nil))
                · obtain ⟨v2, x2, hr2, O2, hb2⟩ := append_rs O1 S1.size A1 (L.length - k) (cap - k) (L.drop k) (by rw [List.length_drop]) (HC1.out _ S1) (by simp; omega)
                  have S2 := SZ.grown S1 hb2.1
                  refine step_append_r rfl _ _ 25 25 rfl (.slice (some ⟨Y0.heap.size, 0, none⟩) 0 0) (.slice (some A1) (L.length - k) (cap - k)) (by simp [Act.eval, Act.put]) (by simp [Act.eval, Act.put]) hr2 ?_
                  try simp only [Act.put, List.setIfInBounds_toArray, List.set_cons_zero, List.set_cons_succ]
                  refine hK.out _ _ S2 (fun hHeld => ?_)
                  clear hK K
                  try simp only [Act.put, List.setIfInBounds_toArray, List.set_cons_zero, List.set_cons_succ]
                  refine wpAnyH_ready (rs := [8, 13]) (by kernel_rfl) (by simp) (AllReadyH.cons (o := { dst := some 64, op := Op.call { callee := Callee.builtin Builtin.append, args := #[Operand.tmp 60, Operand.tmp 63], argTypes := #[25, 25] }, type := 25, pos := "law.go:140", after := #[{ on := 4, ground := Ground.data }, { on := 7, ground := Ground.data }, { on := 4, ground := Ground.chain }], guard := none }) rfl (fun K hK => ?_) (AllReadyH.cons (o := { dst := some 10, op := Op.alloc 27, type := 0, pos := "law.go:140", after := #[], guard := none }) rfl (fun K hK => ?_) AllReadyH.nil))
                  · obtain ⟨v3, x3, hr3, O3, hb3⟩ := append_rs O2 S2.size ⟨g, off, none⟩ k cap (L.take k) (by rw [List.length_take]; omega) (HC2.out _ S2) (by simp; omega)
                    have S3 := SZ.grown S2 hb3.1
                    refine step_append_r rfl _ _ 25 25 rfl v2 (.slice (some ⟨g, off, none⟩) k cap) (by simp [Act.eval, Act.put]) (by simp [Act.eval, Act.put]) hr3 ?_
                    try simp only [Act.put, List.setIfInBounds_toArray, List.set_cons_zero, List.set_cons_succ]
                    refine hK.out _ _ S3 (fun hHeld => ?_)
                    clear hK K
                    try simp only [Act.put, List.setIfInBounds_toArray, List.set_cons_zero, List.set_cons_succ]
                    refine wpAnyH_ready (rs := [9, 13]) (by kernel_rfl) (by simp) (AllReadyH.cons (o := { dst := some 65, op := Op.call { callee := Callee.value (Operand.func 19), args := #[Operand.tmp 64], argTypes := #[25] }, type := 35, pos := "law.go:140", after := #[{ on := 8, ground := Ground.data }, { on := 8, ground := Ground.chain }], guard := none }) rfl (fun K hK => ?_) (AllReadyH.cons (o := { dst := some 10, op := Op.alloc 27, type := 0, pos := "law.go:140", after := #[], guard := none }) rfl (fun K hK => ?_) AllReadyH.nil))
                    · go_simp
                      go_at_call 19
                      refine (HNP.out _ _ (HVG4.out _ S3) (OWN.tbl O3)).mono ?_
                      rintro e x4 ⟨hb4, s4, rfl, T4⟩
                      have S4 := SZ.next S3 hb4
                      refine hK.out _ _ S4 (fun hHeld => ?_)
                      clear hK K
                      try simp only [Act.put, List.setIfInBounds_toArray, List.set_cons_zero, List.set_cons_succ]
                      refine wpAnyH_take (i := 10) (oi := { dst := some 55, op := Op.move (Operand.tmp 65), type := 35, pos := "law.go:140", after := #[{ on := 9, ground := Ground.data }], guard := none }) (v := ?vvz7_10) rfl (by kernel_rfl) (by kernel_rfl) (by kernel_rfl) (fun _ _ _ h => h) (Or.inl ⟨by rfl, ?yyz7_10⟩) hHeld ?_
                      case vvz7_10 => exact .tuple #[.agg #[s4], .int .i64 0]
                      case yyz7_10 =>
                        intro W hS
                        go_simp
                      try simp only [Act.put, List.setIfInBounds_toArray, List.set_cons_zero, List.set_cons_succ]
                      refine wpAnyH_take (i := 11) (oi := { dst := some 66, op := Op.extract (Operand.tmp 55) 0, type := 27, pos := "law.go:140", after := #[{ on := 10, ground := Ground.data }], guard := none }) (v := ?vvz8_11) rfl (by kernel_rfl) (by kernel_rfl) (by kernel_rfl) (fun _ _ _ h => h) (Or.inl ⟨by rfl, ?yyz8_11⟩) hHeld ?_
                      case vvz8_11 => exact .agg #[s4]
                      case yyz8_11 =>
                        intro W hS
                        go_simp
                      try simp only [Act.put, List.setIfInBounds_toArray, List.set_cons_zero, List.set_cons_succ]
                      refine wpAnyH_take (i := 12) (oi := { dst := some 67, op := Op.extract (Operand.tmp 55) 1, type := 34, pos := "law.go:140", after := #[{ on := 10, ground := Ground.data }, { on := 14, ground := Ground.gcOnly Departure.lateStores }], guard := none }) (v := ?vvz9_12) rfl (by kernel_rfl) (by kernel_rfl) (by kernel_rfl) (fun _ _ _ h => h) (Or.inl ⟨by rfl, ?yyz9_12⟩) hHeld ?_
                      case vvz9_12 => exact .int .i64 0
                      case yyz9_12 =>
                        intro W hS
                        go_simp
                      try simp only [Act.put, List.setIfInBounds_toArray, List.set_cons_zero, List.set_cons_succ]
                      refine wpAnyH_ready (rs := [13]) (by kernel_rfl) (by simp) (AllReadyH.cons (o := { dst := some 10, op := Op.alloc 27, type := 0, pos := "law.go:140", after := #[], guard := none }) rfl (fun K hK => ?_) AllReadyH.nil)
                      go_simp
                      have S5 := SZ.al S4 (.cells #[.slice none 0 0] 27)
                      have hge_5 : w5.heap.size ≤ x4.heap.size := S4.size
                      have R5 : Row (x4.alloc (.cells #[.slice none 0 0] 27)) (x4.heap.size) 27 [.slice none 0 0] := Row.self x4 _ _
                      have T5 := TBL.below T4 ((Below.refl _ _).alloc (Nat.le_refl _) (.cells #[.slice none 0 0] 27))
                      generalize hY5 : x4.alloc (.cells #[.slice none 0 0] 27) = Y5 at S5 R5 T5 ⊢
                      clear hY5
                      refine hK.out _ _ S5 (fun hHeld => ?_)
                      clear hK K
                      try simp only [Act.put, List.setIfInBounds_toArray, List.set_cons_zero, List.set_cons_succ]
                      refine wpAnyH_ready (rs := [14]) (by kernel_rfl) (by simp) (AllReadyH.cons (o := { dst := none, op := Op.store 27 (Operand.tmp 10) (Operand.tmp 66), type := 0, pos := "law.go:140", after := #[{ on := 13, ground := Ground.data }, { on := 11, ground := Ground.data }, { on := 9, ground := Ground.chain }, { on := 0, ground := Ground.phase }, { on := 1, ground := Ground.phase }, { on := 2, ground := Ground.phase }, { on := 3, ground := Ground.phase }, { on := 4, ground := Ground.phase }, { on := 5, ground := Ground.phase }, { on := 6, ground := Ground.phase }, { on := 7, ground := Ground.phase }, { on := 8, ground := Ground.phase }, { on := 9, ground := Ground.phase }, { on := 10, ground := Ground.phase }, { on := 11, ground := Ground.phase }, { on := 12, ground := Ground.textOnly Departure.lateStores }, { on := 13, ground := Ground.phase }], guard := none }) rfl (fun K hK => ?_) AllReadyH.nil)
                      have e6 := R5.cell 0
                      have f6 := R5.frozen 0
                      simp only [List.getElem?_cons_zero] at e6
                      obtain ⟨ya6, yn6, yc6, rfl⟩ : ∃ a n c, s4 = Value.slice a n c := (by obtain ⟨a, c, h⟩ := TBL.slice T5; exact ⟨a, _, c, h⟩)
                      have hz6 : w5.heap.size ≤ x4.heap.size := hge_5
                      go_simp
                      have S6 := SZ.set S5 (hz6) (.slice ya6 yn6 yc6)
                      have R6 := R5.set 0 (.slice ya6 yn6 yc6)
                      have T6 := TBL.store (v := .slice ya6 yn6 yc6) T5 R5
                      refine hK.out _ _ S6 (fun hHeld => ?_)
                      clear hK K
                      try simp only [Act.put, List.setIfInBounds_toArray, List.set_cons_zero, List.set_cons_succ]
                      refine wpAnyH_ready (rs := [15]) (by kernel_rfl) (by simp) (AllReadyH.cons (o := { dst := some 11, op := Op.assign (Operand.tmp 67), type := 34, pos := "law.go:140", after := #[{ on := 12, ground := Ground.data }, { on := 14, ground := Ground.chain }, { on := 0, ground := Ground.phase }, { on := 1, ground := Ground.phase }, { on := 2, ground := Ground.phase }, { on := 3, ground := Ground.phase }, { on := 4, ground := Ground.phase }, { on := 5, ground := Ground.phase }, { on := 6, ground := Ground.phase }, { on := 7, ground := Ground.phase }, { on := 8, ground := Ground.phase }, { on := 9, ground := Ground.phase }, { on := 10, ground := Ground.phase }, { on := 11, ground := Ground.phase }, { on := 12, ground := Ground.phase }, { on := 13, ground := Ground.phase }, { on := 14, ground := Ground.phase }], guard := none }) rfl (fun K hK => ?_) AllReadyH.nil)
                      go_simp
                      refine hK.out _ _ S6 (fun hHeld => ?_)
                      clear hK K
                      try simp only [Act.put, List.setIfInBounds_toArray, List.set_cons_zero, List.set_cons_succ]
                      refine wpAnyH_done (by kernel_rfl) ?_ _
                      refine NoPanic.normal ?_
                      exact ⟨rfl, ((.slice (some ⟨Y0.heap.size, 0, none⟩) 0 0), v2, v3, .slice ya6 yn6 yc6, x4.heap.size), rfl, R6, T6, S6⟩
                    · go_simp
                      have S7 := SZ.al S3 (.cells #[.slice none 0 0] 27)
                      have hge_7 : w5.heap.size ≤ x3.heap.size := S3.size
                      have R7 : Row (x3.alloc (.cells #[.slice none 0 0] 27)) (x3.heap.size) 27 [.slice none 0 0] := Row.self x3 _ _
                      have O7 := OWN.alloc O3 (.cells #[.slice none 0 0] 27)
                      generalize hY7 : (x3.alloc (.cells #[.slice none 0 0] 27)) = Y7 at S7 R7 O7 ⊢
                      clear hY7
                      refine hK.out _ _ S7 (fun hHeld => ?_)
                      clear hK K
                      try simp only [Act.put, List.setIfInBounds_toArray, List.set_cons_zero, List.set_cons_succ]
                      refine wpAnyH_ready (rs := [9]) (by kernel_rfl) (by simp) (AllReadyH.cons (o := { dst := some 65, op := Op.call { callee := Callee.value (Operand.func 19), args := #[Operand.tmp 64], argTypes := #[25] }, type := 35, pos := "law.go:140", after := #[{ on := 8, ground := Ground.data }, { on := 8, ground := Ground.chain }], guard := none }) rfl (fun K hK => ?_) AllReadyH.nil)
                      go_simp
                      go_at_call 19
                      refine (HNP.out _ _ (HVG4.out _ S7) (OWN.tbl O7)).mono ?_
                      rintro e x8 ⟨hb8, s8, rfl, T8⟩
                      have S8 := SZ.next S7 hb8
                      have R8 := R7.below hb8 R7.lt
                      refine hK.out _ _ S8 (fun hHeld => ?_)
                      clear hK K
                      try simp only [Act.put, List.setIfInBounds_toArray, List.set_cons_zero, List.set_cons_succ]
                      refine wpAnyH_take (i := 10) (oi := { dst := some 55, op := Op.move (Operand.tmp 65), type := 35, pos := "law.go:140", after := #[{ on := 9, ground := Ground.data }], guard := none }) (v := ?vvz10_10) rfl (by kernel_rfl) (by kernel_rfl) (by kernel_rfl) (fun _ _ _ h => h) (Or.inl ⟨by rfl, ?yyz10_10⟩) hHeld ?_
                      case vvz10_10 => exact .tuple #[.agg #[s8], .int .i64 0]
                      case yyz10_10 =>
                        intro W hS
                        go_simp
                      try simp only [Act.put, List.setIfInBounds_toArray, List.set_cons_zero, List.set_cons_succ]
                      refine wpAnyH_take (i := 11) (oi := { dst := some 66, op := Op.extract (Operand.tmp 55) 0, type := 27, pos := "law.go:140", after := #[{ on := 10, ground := Ground.data }], guard := none }) (v := ?vvz11_11) rfl (by kernel_rfl) (by kernel_rfl) (by kernel_rfl) (fun _ _ _ h => h) (Or.inl ⟨by rfl, ?yyz11_11⟩) hHeld ?_
                      case vvz11_11 => exact .agg #[s8]
                      case yyz11_11 =>
                        intro W hS
                        go_simp
                      try simp only [Act.put, List.setIfInBounds_toArray, List.set_cons_zero, List.set_cons_succ]
                      refine wpAnyH_take (i := 12) (oi := { dst := some 67, op := Op.extract (Operand.tmp 55) 1, type := 34, pos := "law.go:140", after := #[{ on := 10, ground := Ground.data }, { on := 14, ground := Ground.gcOnly Departure.lateStores }], guard := none }) (v := ?vvz12_12) rfl (by kernel_rfl) (by kernel_rfl) (by kernel_rfl) (fun _ _ _ h => h) (Or.inl ⟨by rfl, ?yyz12_12⟩) hHeld ?_
                      case vvz12_12 => exact .int .i64 0
                      case yyz12_12 =>
                        intro W hS
                        go_simp
                      try simp only [Act.put, List.setIfInBounds_toArray, List.set_cons_zero, List.set_cons_succ]
                      refine wpAnyH_ready (rs := [14]) (by kernel_rfl) (by simp) (AllReadyH.cons (o := { dst := none, op := Op.store 27 (Operand.tmp 10) (Operand.tmp 66), type := 0, pos := "law.go:140", after := #[{ on := 13, ground := Ground.data }, { on := 11, ground := Ground.data }, { on := 9, ground := Ground.chain }, { on := 0, ground := Ground.phase }, { on := 1, ground := Ground.phase }, { on := 2, ground := Ground.phase }, { on := 3, ground := Ground.phase }, { on := 4, ground := Ground.phase }, { on := 5, ground := Ground.phase }, { on := 6, ground := Ground.phase }, { on := 7, ground := Ground.phase }, { on := 8, ground := Ground.phase }, { on := 9, ground := Ground.phase }, { on := 10, ground := Ground.phase }, { on := 11, ground := Ground.phase }, { on := 12, ground := Ground.textOnly Departure.lateStores }, { on := 13, ground := Ground.phase }], guard := none }) rfl (fun K hK => ?_) AllReadyH.nil)
                      have e9 := R8.cell 0
                      have f9 := R8.frozen 0
                      simp only [List.getElem?_cons_zero] at e9
                      obtain ⟨ya9, yn9, yc9, rfl⟩ : ∃ a n c, s8 = Value.slice a n c := (by obtain ⟨a, c, h⟩ := TBL.slice T8; exact ⟨a, _, c, h⟩)
                      have hz9 : w5.heap.size ≤ x3.heap.size := hge_7
                      go_simp
                      have S9 := SZ.set S8 (hz9) (.slice ya9 yn9 yc9)
                      have R9 := R8.set 0 (.slice ya9 yn9 yc9)
                      have T9 := TBL.store (v := .slice ya9 yn9 yc9) T8 R8
                      refine hK.out _ _ S9 (fun hHeld => ?_)
                      clear hK K
                      try simp only [Act.put, List.setIfInBounds_toArray, List.set_cons_zero, List.set_cons_succ]
                      refine wpAnyH_ready (rs := [15]) (by kernel_rfl) (by simp) (AllReadyH.cons (o := { dst := some 11, op := Op.assign (Operand.tmp 67), type := 34, pos := "law.go:140", after := #[{ on := 12, ground := Ground.data }, { on := 14, ground := Ground.chain }, { on := 0, ground := Ground.phase }, { on := 1, ground := Ground.phase }, { on := 2, ground := Ground.phase }, { on := 3, ground := Ground.phase }, { on := 4, ground := Ground.phase }, { on := 5, ground := Ground.phase }, { on := 6, ground := Ground.phase }, { on := 7, ground := Ground.phase }, { on := 8, ground := Ground.phase }, { on := 9, ground := Ground.phase }, { on := 10, ground := Ground.phase }, { on := 11, ground := Ground.phase }, { on := 12, ground := Ground.phase }, { on := 13, ground := Ground.phase }, { on := 14, ground := Ground.phase }], guard := none }) rfl (fun K hK => ?_) AllReadyH.nil)
                      go_simp
                      refine hK.out _ _ S9 (fun hHeld => ?_)
                      clear hK K
                      try simp only [Act.put, List.setIfInBounds_toArray, List.set_cons_zero, List.set_cons_succ]
                      refine wpAnyH_done (by kernel_rfl) ?_ _
                      refine NoPanic.normal ?_
                      exact ⟨rfl, ((.slice (some ⟨Y0.heap.size, 0, none⟩) 0 0), v2, v3, .slice ya9 yn9 yc9, x3.heap.size), rfl, R9, T9, S9⟩
                  · go_simp
                    have S10 := SZ.al S2 (.cells #[.slice none 0 0] 27)
                    have hge_10 : w5.heap.size ≤ x2.heap.size := S2.size
                    have R10 : Row (x2.alloc (.cells #[.slice none 0 0] 27)) (x2.heap.size) 27 [.slice none 0 0] := Row.self x2 _ _
                    have O10 := OWN.alloc O2 (.cells #[.slice none 0 0] 27)
                    generalize hY10 : (x2.alloc (.cells #[.slice none 0 0] 27)) = Y10 at S10 R10 O10 ⊢
                    clear hY10
                    refine hK.out _ _ S10 (fun hHeld => ?_)
                    clear hK K
                    try simp only [Act.put, List.setIfInBounds_toArray, List.set_cons_zero, List.set_cons_succ]
                    refine wpAnyH_ready (rs := [8]) (by kernel_rfl) (by simp) (AllReadyH.cons (o := { dst := some 64, op := Op.call { callee := Callee.builtin Builtin.append, args := #[Operand.tmp 60, Operand.tmp 63], argTypes := #[25, 25] }, type := 25, pos := "law.go:140", after := #[{ on := 4, ground := Ground.data }, { on := 7, ground := Ground.data }, { on := 4, ground := Ground.chain }], guard := none }) rfl (fun K hK => ?_) AllReadyH.nil)
                    obtain ⟨v11, x11, hr11, O11, hb11⟩ := append_rs O10 S10.size ⟨g, off, none⟩ k cap (L.take k) (by rw [List.length_take]; omega) (HC2.out _ S10) (by simp; omega)
                    have R11 : Row x11 x2.heap.size 27 [.slice none 0 0] := (hb11.2 _ (OWN.ne_row O10 R10) R10.lt).trans R10
                    have S11 := SZ.grown S10 hb11.1
                    refine step_append_r rfl _ _ 25 25 rfl v2 (.slice (some ⟨g, off, none⟩) k cap) (by simp [Act.eval, Act.put]) (by simp [Act.eval, Act.put]) hr11 ?_
                    try simp only [Act.put, List.setIfInBounds_toArray, List.set_cons_zero, List.set_cons_succ]
                    refine hK.out _ _ S11 (fun hHeld => ?_)
                    clear hK K
                    try simp only [Act.put, List.setIfInBounds_toArray, List.set_cons_zero, List.set_cons_succ]
                    refine wpAnyH_ready (rs := [9]) (by kernel_rfl) (by simp) (AllReadyH.cons (o := { dst := some 65, op := Op.call { callee := Callee.value (Operand.func 19), args := #[Operand.tmp 64], argTypes := #[25] }, type := 35, pos := "law.go:140", after := #[{ on := 8, ground := Ground.data }, { on := 8, ground := Ground.chain }], guard := none }) rfl (fun K hK => ?_) AllReadyH.nil)
                    go_simp
                    go_at_call 19
                    refine (HNP.out _ _ (HVG4.out _ S11) (OWN.tbl O11)).mono ?_
                    rintro e x12 ⟨hb12, s12, rfl, T12⟩
                    have S12 := SZ.next S11 hb12
                    have R12 := R11.below hb12 R11.lt
                    refine hK.out _ _ S12 (fun hHeld => ?_)
                    clear hK K
                    try simp only [Act.put, List.setIfInBounds_toArray, List.set_cons_zero, List.set_cons_succ]
                    refine wpAnyH_take (i := 10) (oi := { dst := some 55, op := Op.move (Operand.tmp 65), type := 35, pos := "law.go:140", after := #[{ on := 9, ground := Ground.data }], guard := none }) (v := ?vvz13_10) rfl (by kernel_rfl) (by kernel_rfl) (by kernel_rfl) (fun _ _ _ h => h) (Or.inl ⟨by rfl, ?yyz13_10⟩) hHeld ?_
                    case vvz13_10 => exact .tuple #[.agg #[s12], .int .i64 0]
                    case yyz13_10 =>
                      intro W hS
                      go_simp
                    try simp only [Act.put, List.setIfInBounds_toArray, List.set_cons_zero, List.set_cons_succ]
                    refine wpAnyH_take (i := 11) (oi := { dst := some 66, op := Op.extract (Operand.tmp 55) 0, type := 27, pos := "law.go:140", after := #[{ on := 10, ground := Ground.data }], guard := none }) (v := ?vvz14_11) rfl (by kernel_rfl) (by kernel_rfl) (by kernel_rfl) (fun _ _ _ h => h) (Or.inl ⟨by rfl, ?yyz14_11⟩) hHeld ?_
                    case vvz14_11 => exact .agg #[s12]
                    case yyz14_11 =>
                      intro W hS
                      go_simp
                    try simp only [Act.put, List.setIfInBounds_toArray, List.set_cons_zero, List.set_cons_succ]
                    refine wpAnyH_take (i := 12) (oi := { dst := some 67, op := Op.extract (Operand.tmp 55) 1, type := 34, pos := "law.go:140", after := #[{ on := 10, ground := Ground.data }, { on := 14, ground := Ground.gcOnly Departure.lateStores }], guard := none }) (v := ?vvz15_12) rfl (by kernel_rfl) (by kernel_rfl) (by kernel_rfl) (fun _ _ _ h => h) (Or.inl ⟨by rfl, ?yyz15_12⟩) hHeld ?_
                    case vvz15_12 => exact .int .i64 0
                    case yyz15_12 =>
                      intro W hS
                      go_simp
                    try simp only [Act.put, List.setIfInBounds_toArray, List.set_cons_zero, List.set_cons_succ]
                    refine wpAnyH_ready (rs := [14]) (by kernel_rfl) (by simp) (AllReadyH.cons (o := { dst := none, op := Op.store 27 (Operand.tmp 10) (Operand.tmp 66), type := 0, pos := "law.go:140", after := #[{ on := 13, ground := Ground.data }, { on := 11, ground := Ground.data }, { on := 9, ground := Ground.chain }, { on := 0, ground := Ground.phase }, { on := 1, ground := Ground.phase }, { on := 2, ground := Ground.phase }, { on := 3, ground := Ground.phase }, { on := 4, ground := Ground.phase }, { on := 5, ground := Ground.phase }, { on := 6, ground := Ground.phase }, { on := 7, ground := Ground.phase }, { on := 8, ground := Ground.phase }, { on := 9, ground := Ground.phase }, { on := 10, ground := Ground.phase }, { on := 11, ground := Ground.phase }, { on := 12, ground := Ground.textOnly Departure.lateStores }, { on := 13, ground := Ground.phase }], guard := none }) rfl (fun K hK => ?_) AllReadyH.nil)
                    have e13 := R12.cell 0
                    have f13 := R12.frozen 0
                    simp only [List.getElem?_cons_zero] at e13
                    obtain ⟨ya13, yn13, yc13, rfl⟩ : ∃ a n c, s12 = Value.slice a n c := (by obtain ⟨a, c, h⟩ := TBL.slice T12; exact ⟨a, _, c, h⟩)
                    have hz13 : w5.heap.size ≤ x2.heap.size := hge_10
                    go_simp
                    have S13 := SZ.set S12 (hz13) (.slice ya13 yn13 yc13)
                    have R13 := R12.set 0 (.slice ya13 yn13 yc13)
                    have T13 := TBL.store (v := .slice ya13 yn13 yc13) T12 R12
                    refine hK.out _ _ S13 (fun hHeld => ?_)
                    clear hK K
                    try simp only [Act.put, List.setIfInBounds_toArray, List.set_cons_zero, List.set_cons_succ]
                    refine wpAnyH_ready (rs := [15]) (by kernel_rfl) (by simp) (AllReadyH.cons (o := { dst := some 11, op := Op.assign (Operand.tmp 67), type := 34, pos := "law.go:140", after := #[{ on := 12, ground := Ground.data }, { on := 14, ground := Ground.chain }, { on := 0, ground := Ground.phase }, { on := 1, ground := Ground.phase }, { on := 2, ground := Ground.phase }, { on := 3, ground := Ground.phase }, { on := 4, ground := Ground.phase }, { on := 5, ground := Ground.phase }, { on := 6, ground := Ground.phase }, { on := 7, ground := Ground.phase }, { on := 8, ground := Ground.phase }, { on := 9, ground := Ground.phase }, { on := 10, ground := Ground.phase }, { on := 11, ground := Ground.phase }, { on := 12, ground := Ground.phase }, { on := 13, ground := Ground.phase }, { on := 14, ground := Ground.phase }], guard := none }) rfl (fun K hK => ?_) AllReadyH.nil)
                    go_simp
                    refine hK.out _ _ S13 (fun hHeld => ?_)
                    clear hK K
                    try simp only [Act.put, List.setIfInBounds_toArray, List.set_cons_zero, List.set_cons_succ]
                    refine wpAnyH_done (by kernel_rfl) ?_ _
                    refine NoPanic.normal ?_
                    exact ⟨rfl, ((.slice (some ⟨Y0.heap.size, 0, none⟩) 0 0), v2, v11, .slice ya13 yn13 yc13, x2.heap.size), rfl, R13, T13, S13⟩
                · go_simp
                  have S14 := SZ.al S1 (.cells #[.slice none 0 0] 27)
                  have hge_14 : w5.heap.size ≤ Y1.heap.size := S1.size
                  have R14 : Row (Y1.alloc (.cells #[.slice none 0 0] 27)) (Y1.heap.size) 27 [.slice none 0 0] := Row.self Y1 _ _
                  have O14 := OWN.alloc O1 (.cells #[.slice none 0 0] 27)
                  generalize hY14 : (Y1.alloc (.cells #[.slice none 0 0] 27)) = Y14 at S14 R14 O14 ⊢
                  clear hY14
                  refine hK.out _ _ S14 (fun hHeld => ?_)
                  clear hK K
                  try simp only [Act.put, List.setIfInBounds_toArray, List.set_cons_zero, List.set_cons_succ]
                  refine wpAnyH_ready (rs := [4]) (by kernel_rfl) (by simp) (AllReadyH.cons (o := { dst := some 60, op := Op.call { callee := Callee.builtin Builtin.append, args := #[Operand.tmp 56, Operand.tmp 59], argTypes := #[25, 25] }, type := 25, pos := "law.go:140", after := #[{ on := 0, ground := Ground.data }, { on := 3, ground := Ground.data }], guard := none }) rfl (fun K hK => ?_) AllReadyH.nil)
                  obtain ⟨v15, x15, hr15, O15, hb15⟩ := append_rs O14 S14.size A1 (L.length - k) (cap - k) (L.drop k) (by rw [List.length_drop]) (HC1.out _ S14) (by simp; omega)
                  have R15 : Row x15 Y1.heap.size 27 [.slice none 0 0] := (hb15.2 _ (OWN.ne_row O14 R14) R14.lt).trans R14
                  have S15 := SZ.grown S14 hb15.1
                  refine step_append_r rfl _ _ 25 25 rfl (.slice (some ⟨Y0.heap.size, 0, none⟩) 0 0) (.slice (some A1) (L.length - k) (cap - k)) (by simp [Act.eval, Act.put]) (by simp [Act.eval, Act.put]) hr15 ?_
                  try simp only [Act.put, List.setIfInBounds_toArray, List.set_cons_zero, List.set_cons_succ]
                  refine hK.out _ _ S15 (fun hHeld => ?_)
                  clear hK K
                  try simp only [Act.put, List.setIfInBounds_toArray, List.set_cons_zero, List.set_cons_succ]
                  refine wpAnyH_ready (rs := [8]) (by kernel_rfl) (by simp) (AllReadyH.cons (o := { dst := some 64, op := Op.call { callee := Callee.builtin Builtin.append, args := #[Operand.tmp 60, Operand.tmp 63], argTypes := #[25, 25] }, type := 25, pos := "law.go:140", after := #[{ on := 4, ground := Ground.data }, { on := 7, ground := Ground.data }, { on := 4, ground := Ground.chain }], guard := none }) rfl (fun K hK => ?_) AllReadyH.nil)
                  obtain ⟨v16, x16, hr16, O16, hb16⟩ := append_rs O15 S15.size ⟨g, off, none⟩ k cap (L.take k) (by rw [List.length_take]; omega) (HC2.out _ S15) (by simp; omega)
                  have R16 : Row x16 Y1.heap.size 27 [.slice none 0 0] := (hb16.2 _ (OWN.ne_row O15 R15) R15.lt).trans R15
                  have S16 := SZ.grown S15 hb16.1
                  refine step_append_r rfl _ _ 25 25 rfl v15 (.slice (some ⟨g, off, none⟩) k cap) (by simp [Act.eval, Act.put]) (by simp [Act.eval, Act.put]) hr16 ?_
                  try simp only [Act.put, List.setIfInBounds_toArray, List.set_cons_zero, List.set_cons_succ]
                  refine hK.out _ _ S16 (fun hHeld => ?_)
                  clear hK K
                  try simp only [Act.put, List.setIfInBounds_toArray, List.set_cons_zero, List.set_cons_succ]
                  refine wpAnyH_ready (rs := [9]) (by kernel_rfl) (by simp) (AllReadyH.cons (o := { dst := some 65, op := Op.call { callee := Callee.value (Operand.func 19), args := #[Operand.tmp 64], argTypes := #[25] }, type := 35, pos := "law.go:140", after := #[{ on := 8, ground := Ground.data }, { on := 8, ground := Ground.chain }], guard := none }) rfl (fun K hK => ?_) AllReadyH.nil)
                  go_simp
                  go_at_call 19
                  refine (HNP.out _ _ (HVG4.out _ S16) (OWN.tbl O16)).mono ?_
                  rintro e x17 ⟨hb17, s17, rfl, T17⟩
                  have S17 := SZ.next S16 hb17
                  have R17 := R16.below hb17 R16.lt
                  refine hK.out _ _ S17 (fun hHeld => ?_)
                  clear hK K
                  try simp only [Act.put, List.setIfInBounds_toArray, List.set_cons_zero, List.set_cons_succ]
                  refine wpAnyH_take (i := 10) (oi := { dst := some 55, op := Op.move (Operand.tmp 65), type := 35, pos := "law.go:140", after := #[{ on := 9, ground := Ground.data }], guard := none }) (v := ?vvz16_10) rfl (by kernel_rfl) (by kernel_rfl) (by kernel_rfl) (fun _ _ _ h => h) (Or.inl ⟨by rfl, ?yyz16_10⟩) hHeld ?_
                  case vvz16_10 => exact .tuple #[.agg #[s17], .int .i64 0]
                  case yyz16_10 =>
                    intro W hS
                    go_simp
                  try simp only [Act.put, List.setIfInBounds_toArray, List.set_cons_zero, List.set_cons_succ]
                  refine wpAnyH_take (i := 11) (oi := { dst := some 66, op := Op.extract (Operand.tmp 55) 0, type := 27, pos := "law.go:140", after := #[{ on := 10, ground := Ground.data }], guard := none }) (v := ?vvz17_11) rfl (by kernel_rfl) (by kernel_rfl) (by kernel_rfl) (fun _ _ _ h => h) (Or.inl ⟨by rfl, ?yyz17_11⟩) hHeld ?_
                  case vvz17_11 => exact .agg #[s17]
                  case yyz17_11 =>
                    intro W hS
                    go_simp
                  try simp only [Act.put, List.setIfInBounds_toArray, List.set_cons_zero, List.set_cons_succ]
                  refine wpAnyH_take (i := 12) (oi := { dst := some 67, op := Op.extract (Operand.tmp 55) 1, type := 34, pos := "law.go:140", after := #[{ on := 10, ground := Ground.data }, { on := 14, ground := Ground.gcOnly Departure.lateStores }], guard := none }) (v := ?vvz18_12) rfl (by kernel_rfl) (by kernel_rfl) (by kernel_rfl) (fun _ _ _ h => h) (Or.inl ⟨by rfl, ?yyz18_12⟩) hHeld ?_
                  case vvz18_12 => exact .int .i64 0
                  case yyz18_12 =>
                    intro W hS
                    go_simp
                  try simp only [Act.put, List.setIfInBounds_toArray, List.set_cons_zero, List.set_cons_succ]
                  refine wpAnyH_ready (rs := [14]) (by kernel_rfl) (by simp) (AllReadyH.cons (o := { dst := none, op := Op.store 27 (Operand.tmp 10) (Operand.tmp 66), type := 0, pos := "law.go:140", after := #[{ on := 13, ground := Ground.data }, { on := 11, ground := Ground.data }, { on := 9, ground := Ground.chain }, { on := 0, ground := Ground.phase }, { on := 1, ground := Ground.phase }, { on := 2, ground := Ground.phase }, { on := 3, ground := Ground.phase }, { on := 4, ground := Ground.phase }, { on := 5, ground := Ground.phase }, { on := 6, ground := Ground.phase }, { on := 7, ground := Ground.phase }, { on := 8, ground := Ground.phase }, { on := 9, ground := Ground.phase }, { on := 10, ground := Ground.phase }, { on := 11, ground := Ground.phase }, { on := 12, ground := Ground.textOnly Departure.lateStores }, { on := 13, ground := Ground.phase }], guard := none }) rfl (fun K hK => ?_) AllReadyH.nil)
                  have e18 := R17.cell 0
                  have f18 := R17.frozen 0
                  simp only [List.getElem?_cons_zero] at e18
                  obtain ⟨ya18, yn18, yc18, rfl⟩ : ∃ a n c, s17 = Value.slice a n c := (by obtain ⟨a, c, h⟩ := TBL.slice T17; exact ⟨a, _, c, h⟩)
                  have hz18 : w5.heap.size ≤ Y1.heap.size := hge_14
                  go_simp
                  have S18 := SZ.set S17 (hz18) (.slice ya18 yn18 yc18)
                  have R18 := R17.set 0 (.slice ya18 yn18 yc18)
                  have T18 := TBL.store (v := .slice ya18 yn18 yc18) T17 R17
                  refine hK.out _ _ S18 (fun hHeld => ?_)
                  clear hK K
                  try simp only [Act.put, List.setIfInBounds_toArray, List.set_cons_zero, List.set_cons_succ]
                  refine wpAnyH_ready (rs := [15]) (by kernel_rfl) (by simp) (AllReadyH.cons (o := { dst := some 11, op := Op.assign (Operand.tmp 67), type := 34, pos := "law.go:140", after := #[{ on := 12, ground := Ground.data }, { on := 14, ground := Ground.chain }, { on := 0, ground := Ground.phase }, { on := 1, ground := Ground.phase }, { on := 2, ground := Ground.phase }, { on := 3, ground := Ground.phase }, { on := 4, ground := Ground.phase }, { on := 5, ground := Ground.phase }, { on := 6, ground := Ground.phase }, { on := 7, ground := Ground.phase }, { on := 8, ground := Ground.phase }, { on := 9, ground := Ground.phase }, { on := 10, ground := Ground.phase }, { on := 11, ground := Ground.phase }, { on := 12, ground := Ground.phase }, { on := 13, ground := Ground.phase }, { on := 14, ground := Ground.phase }], guard := none }) rfl (fun K hK => ?_) AllReadyH.nil)
                  go_simp
                  refine hK.out _ _ S18 (fun hHeld => ?_)
                  clear hK K
                  try simp only [Act.put, List.setIfInBounds_toArray, List.set_cons_zero, List.set_cons_succ]
                  refine wpAnyH_done (by kernel_rfl) ?_ _
                  refine NoPanic.normal ?_
                  exact ⟨rfl, ((.slice (some ⟨Y0.heap.size, 0, none⟩) 0 0), v15, v16, .slice ya18 yn18 yc18, Y1.heap.size), rfl, R18, T18, S18⟩
              · go_simp
                have S19 := SZ.al S0 (.cells #[.slice none 0 0] 27)
                have hge_19 : w5.heap.size ≤ Y0.heap.size := S0.size
                have R19 : Row (Y0.alloc (.cells #[.slice none 0 0] 27)) (Y0.heap.size) 27 [.slice none 0 0] := Row.self Y0 _ _
                generalize hY19 : (Y0.alloc (.cells #[.slice none 0 0] 27)) = Y19 at S19 R19 ⊢
                clear hY19
                refine hK.out _ _ S19 (fun hHeld => ?_)
                clear hK K
                try simp only [Act.put, List.setIfInBounds_toArray, List.set_cons_zero, List.set_cons_succ]
                refine wpAnyH_ready (rs := [0]) (by kernel_rfl) (by simp) (AllReadyH.cons (o := { dst := some 56, op := Op.buildSlice 25 0 #[], type := 25, pos := "law.go:140", after := #[], guard := none }) rfl (fun K hK => ?_) AllReadyH.nil)
                go_simp
                have S20 := SZ.al S19 (.cells #[] 30)
                have O20 : OWN w5.heap.size (Y19.alloc (.cells #[] 30)) (.slice (some ⟨Y19.heap.size, 0, none⟩) 0 0) [] := OWN.weak (World.ownsRow_made (size := 6) Y19 #[] 0 (Nat.le_refl _) (Nat.zero_le _) rfl) S19.size
                have R20 := R19.alloc (.cells #[] 30)
                generalize hY20 : Y19.alloc (.cells #[] 30) = Y20 at S20 O20 R20 ⊢
                clear hY20
                refine hK.out _ _ S20 (fun hHeld => ?_)
                clear hK K
                try simp only [Act.put, List.setIfInBounds_toArray, List.set_cons_zero, List.set_cons_succ]
                refine wpAnyH_ready (rs := [4]) (by kernel_rfl) (by simp) (AllReadyH.cons (o := { dst := some 60, op := Op.call { callee := Callee.builtin Builtin.append, args := #[Operand.tmp 56, Operand.tmp 59], argTypes := #[25, 25] }, type := 25, pos := "law.go:140", after := #[{ on := 0, ground := Ground.data }, { on := 3, ground := Ground.data }], guard := none }) rfl (fun K hK => ?_) AllReadyH.nil)
                obtain ⟨v21, x21, hr21, O21, hb21⟩ := append_rs O20 S20.size A1 (L.length - k) (cap - k) (L.drop k) (by rw [List.length_drop]) (HC1.out _ S20) (by simp; omega)
                have R21 : Row x21 Y0.heap.size 27 [.slice none 0 0] := (hb21.2 _ (OWN.ne_row O20 R20) R20.lt).trans R20
                have S21 := SZ.grown S20 hb21.1
                refine step_append_r rfl _ _ 25 25 rfl (.slice (some ⟨Y19.heap.size, 0, none⟩) 0 0) (.slice (some A1) (L.length - k) (cap - k)) (by simp [Act.eval, Act.put]) (by simp [Act.eval, Act.put]) hr21 ?_
                try simp only [Act.put, List.setIfInBounds_toArray, List.set_cons_zero, List.set_cons_succ]
                refine hK.out _ _ S21 (fun hHeld => ?_)
                clear hK K
                try simp only [Act.put, List.setIfInBounds_toArray, List.set_cons_zero, List.set_cons_succ]
                refine wpAnyH_ready (rs := [8]) (by kernel_rfl) (by simp) (AllReadyH.cons (o := { dst := some 64, op := Op.call { callee := Callee.builtin Builtin.append, args := #[Operand.tmp 60, Operand.tmp 63], argTypes := #[25, 25] }, type := 25, pos := "law.go:140", after := #[{ on := 4, ground := Ground.data }, { on := 7, ground := Ground.data }, { on := 4, ground := Ground.chain }], guard := none }) rfl (fun K hK => ?_) AllReadyH.nil)
                obtain ⟨v22, x22, hr22, O22, hb22⟩ := append_rs O21 S21.size ⟨g, off, none⟩ k cap (L.take k) (by rw [List.length_take]; omega) (HC2.out _ S21) (by simp; omega)
                have R22 : Row x22 Y0.heap.size 27 [.slice none 0 0] := (hb22.2 _ (OWN.ne_row O21 R21) R21.lt).trans R21
                have S22 := SZ.grown S21 hb22.1
                refine step_append_r rfl _ _ 25 25 rfl v21 (.slice (some ⟨g, off, none⟩) k cap) (by simp [Act.eval, Act.put]) (by simp [Act.eval, Act.put]) hr22 ?_
                try simp only [Act.put, List.setIfInBounds_toArray, List.set_cons_zero, List.set_cons_succ]
                refine hK.out _ _ S22 (fun hHeld => ?_)
                clear hK K
                try simp only [Act.put, List.setIfInBounds_toArray, List.set_cons_zero, List.set_cons_succ]
                refine wpAnyH_ready (rs := [9]) (by kernel_rfl) (by simp) (AllReadyH.cons (o := { dst := some 65, op := Op.call { callee := Callee.value (Operand.func 19), args := #[Operand.tmp 64], argTypes := #[25] }, type := 35, pos := "law.go:140", after := #[{ on := 8, ground := Ground.data }, { on := 8, ground := Ground.chain }], guard := none }) rfl (fun K hK => ?_) AllReadyH.nil)
                go_simp
                go_at_call 19
                refine (HNP.out _ _ (HVG4.out _ S22) (OWN.tbl O22)).mono ?_
                rintro e x23 ⟨hb23, s23, rfl, T23⟩
                have S23 := SZ.next S22 hb23
                have R23 := R22.below hb23 R22.lt
                refine hK.out _ _ S23 (fun hHeld => ?_)
                clear hK K
                try simp only [Act.put, List.setIfInBounds_toArray, List.set_cons_zero, List.set_cons_succ]
                refine wpAnyH_take (i := 10) (oi := { dst := some 55, op := Op.move (Operand.tmp 65), type := 35, pos := "law.go:140", after := #[{ on := 9, ground := Ground.data }], guard := none }) (v := ?vvz19_10) rfl (by kernel_rfl) (by kernel_rfl) (by kernel_rfl) (fun _ _ _ h => h) (Or.inl ⟨by rfl, ?yyz19_10⟩) hHeld ?_
                case vvz19_10 => exact .tuple #[.agg #[s23], .int .i64 0]
                case yyz19_10 =>
                  intro W hS
                  go_simp
                try simp only [Act.put, List.setIfInBounds_toArray, List.set_cons_zero, List.set_cons_succ]
                refine wpAnyH_take (i := 11) (oi := { dst := some 66, op := Op.extract (Operand.tmp 55) 0, type := 27, pos := "law.go:140", after := #[{ on := 10, ground := Ground.data }], guard := none }) (v := ?vvz20_11) rfl (by kernel_rfl) (by kernel_rfl) (by kernel_rfl) (fun _ _ _ h => h) (Or.inl ⟨by rfl, ?yyz20_11⟩) hHeld ?_
                case vvz20_11 => exact .agg #[s23]
                case yyz20_11 =>
                  intro W hS
                  go_simp
                try simp only [Act.put, List.setIfInBounds_toArray, List.set_cons_zero, List.set_cons_succ]
                refine wpAnyH_take (i := 12) (oi := { dst := some 67, op := Op.extract (Operand.tmp 55) 1, type := 34, pos := "law.go:140", after := #[{ on := 10, ground := Ground.data }, { on := 14, ground := Ground.gcOnly Departure.lateStores }], guard := none }) (v := ?vvz21_12) rfl (by kernel_rfl) (by kernel_rfl) (by kernel_rfl) (fun _ _ _ h => h) (Or.inl ⟨by rfl, ?yyz21_12⟩) hHeld ?_
                case vvz21_12 => exact .int .i64 0
                case yyz21_12 =>
                  intro W hS
                  go_simp
                try simp only [Act.put, List.setIfInBounds_toArray, List.set_cons_zero, List.set_cons_succ]
                refine wpAnyH_ready (rs := [14]) (by kernel_rfl) (by simp) (AllReadyH.cons (o := { dst := none, op := Op.store 27 (Operand.tmp 10) (Operand.tmp 66), type := 0, pos := "law.go:140", after := #[{ on := 13, ground := Ground.data }, { on := 11, ground := Ground.data }, { on := 9, ground := Ground.chain }, { on := 0, ground := Ground.phase }, { on := 1, ground := Ground.phase }, { on := 2, ground := Ground.phase }, { on := 3, ground := Ground.phase }, { on := 4, ground := Ground.phase }, { on := 5, ground := Ground.phase }, { on := 6, ground := Ground.phase }, { on := 7, ground := Ground.phase }, { on := 8, ground := Ground.phase }, { on := 9, ground := Ground.phase }, { on := 10, ground := Ground.phase }, { on := 11, ground := Ground.phase }, { on := 12, ground := Ground.textOnly Departure.lateStores }, { on := 13, ground := Ground.phase }], guard := none }) rfl (fun K hK => ?_) AllReadyH.nil)
                have e24 := R23.cell 0
                have f24 := R23.frozen 0
                simp only [List.getElem?_cons_zero] at e24
                obtain ⟨ya24, yn24, yc24, rfl⟩ : ∃ a n c, s23 = Value.slice a n c := (by obtain ⟨a, c, h⟩ := TBL.slice T23; exact ⟨a, _, c, h⟩)
                have hz24 : w5.heap.size ≤ Y0.heap.size := hge_19
                go_simp
                have S24 := SZ.set S23 (hz24) (.slice ya24 yn24 yc24)
                have R24 := R23.set 0 (.slice ya24 yn24 yc24)
                have T24 := TBL.store (v := .slice ya24 yn24 yc24) T23 R23
                refine hK.out _ _ S24 (fun hHeld => ?_)
                clear hK K
                try simp only [Act.put, List.setIfInBounds_toArray, List.set_cons_zero, List.set_cons_succ]
                refine wpAnyH_ready (rs := [15]) (by kernel_rfl) (by simp) (AllReadyH.cons (o := { dst := some 11, op := Op.assign (Operand.tmp 67), type := 34, pos := "law.go:140", after := #[{ on := 12, ground := Ground.data }, { on := 14, ground := Ground.chain }, { on := 0, ground := Ground.phase }, { on := 1, ground := Ground.phase }, { on := 2, ground := Ground.phase }, { on := 3, ground := Ground.phase }, { on := 4, ground := Ground.phase }, { on := 5, ground := Ground.phase }, { on := 6, ground := Ground.phase }, { on := 7, ground := Ground.phase }, { on := 8, ground := Ground.phase }, { on := 9, ground := Ground.phase }, { on := 10, ground := Ground.phase }, { on := 11, ground := Ground.phase }, { on := 12, ground := Ground.phase }, { on := 13, ground := Ground.phase }, { on := 14, ground := Ground.phase }], guard := none }) rfl (fun K hK => ?_) AllReadyH.nil)
                go_simp
                refine hK.out _ _ S24 (fun hHeld => ?_)
                clear hK K
                try simp only [Act.put, List.setIfInBounds_toArray, List.set_cons_zero, List.set_cons_succ]
                refine wpAnyH_done (by kernel_rfl) ?_ _
                refine NoPanic.normal ?_
                exact ⟨rfl, ((.slice (some ⟨Y19.heap.size, 0, none⟩) 0 0), v21, v22, .slice ya24 yn24 yc24, Y0.heap.size), rfl, R24, T24, S24⟩
            rintro ⟨z0, z1, z2, s5, gu⟩ w6 ⟨hR6, hT6, hS6⟩
            dsimp only at hR6 hT6 hS6
            have HU := Lib.hid (And.intro hR6 hT6)
            have HV := Lib.hid (And.intro (HR5.out.below hS6 HR5.out.lt) (HT5.out.below hS6))
            have HBS := Lib.hid hb
            have HS6 := Lib.hid (show Below b w w6 from B5.out.trans (Below.mono hS6 hbz5))
            have hbz6 : b ≤ w6.heap.size := Nat.le_trans hbz5 (SZ.size hS6)
            clear hR6 hT6 hS6
            simp only [Act.put, List.setIfInBounds_toArray, List.set_cons_zero, List.set_cons_succ]
            have htp := tab_perm L L.length t (Nat.le_refl _) HTN.out
            rw [List.take_length] at htp
            have HTP := Lib.hid htp
            have HGT := Lib.hid (tab_good L _ t HTN.out)
            have HTL : Hid (∀ r ∈ t, r.light) := Lib.hid fun r hr => HLT.out r (HTP.out.mem_iff.1 hr)
            have hTlen : t.length = L.length := htp.length_eq
            have HTlen := Lib.hid hTlen
            clear htp hTlen
            have HFo := Lib.hid (fun r hr c hc s W h => Find_own t HGT.out HTL.out (by rw [HTlen.out]; omega) r hr c hc s W h)
            have HDo := Lib.hid (fun r hr s W h => Drop_own t HGT.out HTL.out (by rw [HTlen.out]; omega) r hr s W h)
            have HFg := Lib.hid (fun r hr s W h => Find_gone t HGT.out HTL.out (by rw [HTlen.out]; omega) r hr s W h)
            go_wp2_with fail
            go_loopw [70] (fun i wr => ∃ j : Nat, j ≤ L.length ∧ i = .int .i64 j ∧ Hid (SZ w6 wr)) (fun i _ => L.length - (intOf i).toNat)
            case atStart => exact ⟨0, Nat.zero_le _, rfl, Lib.hid (Below.refl _ _)⟩
            case round =>
              obtain ⟨j, hj, rfl, HW⟩ := hrel
              by_cases hlt : j < L.length
              · have hltI : (j : Int) < (L.length : Int) := by omega
                obtain ⟨g', off', he, hg, hrng⟩ := (HI.out _ (HS6.out.trans (Below.mono HW.out hbz6))).at j hlt
                injection he with he
                injection he with hea heb
                subst hea heb
                have p0 := hrng 0 _ rfl
                have p1 := hrng 1 _ rfl
                have p2 := hrng 2 _ rfl
                have p3 := hrng 3 _ rfl
                have p4 := hrng 4 _ rfl
                have p5 := hrng 5 _ rfl
                rw [Nat.add_zero] at p0
                have hxt : L[j] ∈ t := HTP.out.mem_iff.2 (List.getElem_mem _)
                obtain ⟨x, hx⟩ : ∃ x, L[j] = x := ⟨_, rfl⟩
                rw [hx] at p0 p1 p2 p3 p4 p5 hxt
                clear hrng hx
                have HF1 := Lib.hid (fun s W h => HFo.out x hxt x.lo (Or.inl rfl) s W h)
                have HF2 := Lib.hid (fun s W h => HFo.out x hxt x.hi (Or.inr rfl) s W h)
                have HF3 := Lib.hid (fun s W h => HDo.out x hxt s W h)
                have HF4 := Lib.hid (fun s W h => HFg.out x hxt s W h)
                clear hxt
                have r7 := HV.out.1.below HW.out HV.out.1.lt
                have t7 := HV.out.2.below HW.out
                have c7 := r7.cell 0
                have l7 := r7.lt
                simp only [List.getElem?_cons_zero] at c7
                have X0 : Hid (RW w6 w4.heap.size (.slice ta tn tc) t x wr.heap.size (wr.alloc (.cells #[.string x.lo, .string x.hi, .string x.acs, .string x.low, .string x.high, .int .i64 x.mode] 30))) := Lib.hid ⟨HW.out.al _, r7.alloc _, t7.below ((Below.refl _ _).alloc (Nat.le_refl _) _), Row.self wr _ _⟩
                clear r7 t7
                go_wp2_with fail
                generalize wr.alloc (.cells #[.string x.lo, .string x.hi, .string x.acs, .string x.low, .string x.high, .int .i64 x.mode] 30) = w7 at X0 ⊢
                refine (HF1.out _ _ X0.out.2.2.1).mono ?_
                rintro e w8 ⟨rfl, hb⟩
                have X8 := Lib.hid (X0.out.next hb)
                clear hb c7 l7 p0 p1 p2 p3 p4 p5
                have c7 := X8.out.2.1.cell 0
                have l7 := X8.out.2.1.lt
                have l13 := X8.out.2.2.2.lt
                have p0 := X8.out.2.2.2.cell 0
                have p1 := X8.out.2.2.2.cell 1
                have p2 := X8.out.2.2.2.cell 2
                have p3 := X8.out.2.2.2.cell 3
                have p4 := X8.out.2.2.2.cell 4
                have p5 := X8.out.2.2.2.cell 5
                simp only [RG.cells, List.getElem?_cons_zero, List.getElem?_cons_succ] at c7 p0 p1 p2 p3 p4 p5
                go_wp2_with fail
                have A9 := Lib.hid (Row.self w8 #[.string x.lo, .string x.hi, .string x.acs, .string x.low, .string x.high, .int .i64 x.mode] 30)
                have X9 := Lib.hid (X8.out.al (.cells #[.string x.lo, .string x.hi, .string x.acs, .string x.low, .string x.high, .int .i64 x.mode] 30))
                generalize w8.alloc (.cells #[.string x.lo, .string x.hi, .string x.acs, .string x.low, .string x.high, .int .i64 x.mode] 30) = w9 at A9 X9 ⊢
                refine (HF2.out _ _ X9.out.2.2.1).mono ?_
                rintro e w10 ⟨rfl, hb⟩
                have X10 := Lib.hid (X9.out.next hb)
                have A10 := Lib.hid (A9.out.below hb A9.out.lt)
                clear hb c7 l7 l13 p0 p1 p2 p3 p4 p5
                have c7 := X10.out.2.1.cell 0
                have l7 := X10.out.2.1.lt
                have l13 := X10.out.2.2.2.lt
                have p0 := X10.out.2.2.2.cell 0
                have p1 := X10.out.2.2.2.cell 1
                have p2 := X10.out.2.2.2.cell 2
                have p3 := X10.out.2.2.2.cell 3
                have p4 := X10.out.2.2.2.cell 4
                have p5 := X10.out.2.2.2.cell 5
                simp only [RG.cells, List.getElem?_cons_zero, List.getElem?_cons_succ] at c7 p0 p1 p2 p3 p4 p5
                go_wp2_with fail
                have C11 := Lib.hid (Row.self w10 #[.string x.lo, .string x.hi, .string x.acs, .string x.low, .string x.high, .int .i64 x.mode] 30)
                have X11 := Lib.hid (X10.out.al (.cells #[.string x.lo, .string x.hi, .string x.acs, .string x.low, .string x.high, .int .i64 x.mode] 30))
                have A11 := Lib.hid (A10.out.alloc (.cells #[.string x.lo, .string x.hi, .string x.acs, .string x.low, .string x.high, .int .i64 x.mode] 30))
                generalize w10.alloc (.cells #[.string x.lo, .string x.hi, .string x.acs, .string x.low, .string x.high, .int .i64 x.mode] 30) = w11 at C11 X11 A11 ⊢
                refine (HF3.out _ _ X11.out.2.2.1).mono ?_
                rintro e w12 ⟨hb, s12, rfl, T12⟩
                have X12 := Lib.hid (X11.out.next hb)
                have A12 := Lib.hid (A11.out.below hb A11.out.lt)
                have C12 := Lib.hid (C11.out.below hb C11.out.lt)
                obtain ⟨ya, yn, yc, rfl⟩ : ∃ a n c, s12 = Value.slice a n c := (by obtain ⟨a, c, h⟩ := TBL.slice T12; exact ⟨a, _, c, h⟩)
                have HT12 := Lib.hid T12
                clear hb T12 c7 l7 l13 p0 p1 p2 p3 p4 p5
                have c7 := X12.out.2.1.cell 0
                have l7 := X12.out.2.1.lt
                have l13 := X12.out.2.2.2.lt
                have p0 := X12.out.2.2.2.cell 0
                have p1 := X12.out.2.2.2.cell 1
                have p2 := X12.out.2.2.2.cell 2
                have p3 := X12.out.2.2.2.cell 3
                have p4 := X12.out.2.2.2.cell 4
                have p5 := X12.out.2.2.2.cell 5
                simp only [RG.cells, List.getElem?_cons_zero, List.getElem?_cons_succ] at c7 p0 p1 p2 p3 p4 p5
                go_wp2_with fail
                have X13 := Lib.hid (X12.out.al (.cells #[.slice ya yn yc] 27))
                have A13 := Lib.hid (A12.out.alloc (.cells #[.slice ya yn yc] 27))
                have C13 := Lib.hid (C12.out.alloc (.cells #[.slice ya yn yc] 27))
                have T13 := Lib.hid (HT12.out.below ((Below.refl _ _).alloc (Nat.le_refl _) (.cells #[.slice ya yn yc] 27)))
                generalize w12.alloc (.cells #[.slice ya yn yc] 27) = w13 at X13 A13 C13 T13 ⊢
                refine (HF4.out _ _ T13.out).mono ?_
                rintro e w14 ⟨rfl, hb⟩
                have X14 := Lib.hid (X13.out.next hb)
                have A14 := Lib.hid (A13.out.below hb A13.out.lt)
                have C14 := Lib.hid (C13.out.below hb C13.out.lt)
                clear hb c7 l7 l13 p0 p1 p2 p3 p4 p5
                have c7 := X14.out.2.1.cell 0
                have l7 := X14.out.2.1.lt
                have l13 := X14.out.2.2.2.lt
                have p0 := X14.out.2.2.2.cell 0
                have p1 := X14.out.2.2.2.cell 1
                have p2 := X14.out.2.2.2.cell 2
                have p3 := X14.out.2.2.2.cell 3
                have p4 := X14.out.2.2.2.cell 4
                have p5 := X14.out.2.2.2.cell 5
                simp only [RG.cells, List.getElem?_cons_zero, List.getElem?_cons_succ] at c7 p0 p1 p2 p3 p4 p5
                have q0 := A14.out.cell 0
                have q1 := A14.out.cell 1
                have q2 := A14.out.cell 2
                have q3 := A14.out.cell 3
                have q4 := A14.out.cell 4
                have q5 := A14.out.cell 5
                have d0 := C14.out.cell 0
                have d1 := C14.out.cell 1
                have d2 := C14.out.cell 2
                have d3 := C14.out.cell 3
                have d4 := C14.out.cell 4
                have d5 := C14.out.cell 5
                have lq := A14.out.lt
                have ld := C14.out.lt
                simp only [List.getElem?_cons_zero, List.getElem?_cons_succ] at q0 q1 q2 q3 q4 q5 d0 d1 d2 d3 d4 d5
                have hneq := req_neq x x
                rw [decide_eq_true rfl] at hneq
                clear c7 l7
                go_wp2_with fail
                have S15 := Lib.hid (X14.out.1.al (.cells #[.string ⟨#[]⟩, .string ⟨#[]⟩, .string ⟨#[]⟩, .string ⟨#[]⟩, .string ⟨#[]⟩, .int .i64 0] 30))
                clear l13 p0 p1 p2 p3 p4 p5 q0 q1 q2 q3 q4 q5 d0 d1 d2 d3 d4 d5 lq ld
                go_roundw
                case rel => exact ⟨j + 1, by omega, by go_num, S15⟩
                case measure => simp [intOf]; omega
              · have hltI : ¬ (j : Int) < (L.length : Int) := by omega
                have HW6 := Lib.hid (HW.out)
                have c7 := (HV.out.1.below HW.out HV.out.1.lt).cell 0
                have c8 := (HU.out.1.below HW.out HU.out.1.lt).cell 0
                simp only [List.getElem?_cons_zero] at c7 c8
                have hS := Lib.hid (fun W h1 h2 => Same_any t t (by rw [HTlen.out]; omega) (.slice ta tn tc) s5 W h1 h2)
                rw [decide_eq_true rfl] at hS
                have hLn := Lib.hid (fun W h => Len_any t (.slice ta tn tc) W h)
                obtain ⟨ua, un, uc, rfl⟩ : ∃ a n c, s5 = Value.slice a n c := (by obtain ⟨a, c, h⟩ := TBL.slice HU.out.2; exact ⟨a, _, c, h⟩)
                go_wp2_with fail
                refine (hS.out _ (HV.out.2.below HW.out) (HU.out.2.below HW.out)).mono ?_
                rintro e w8 ⟨rfl, hb⟩
                have S8 := Lib.hid (HW.out.next hb)
                have c9 := (HV.out.1.below S8.out HV.out.1.lt).cell 0
                simp only [List.getElem?_cons_zero] at c9
                clear hb c7 c8
                go_wp2_with fail
                refine (hLn.out _ (HV.out.2.below S8.out)).mono ?_
                rintro e w9 ⟨rfl, hb⟩
                have S9 := Lib.hid (S8.out.next hb)
                rw [HTlen.out]
                clear hb c9
                go_wp2
                go_ret
                exact ⟨rfl, by rw [HBS.out]; exact HS6.out.trans (Below.mono S9.out hbz6)⟩
          · have h0I : ¬ (0 : Int) < (L.length : Int) := by omega
            have hL0 : L = [] := List.eq_nil_of_length_eq_zero h0
            subst hL0
            have B5 : Hid (Below b w (w4.alloc (.cells #[.slice ta tn tc] 27))) := Lib.hid (B4.out.alloc hbz4 _)
            have R5 : Row (w4.alloc (.cells #[.slice ta tn tc] 27)) w4.heap.size 27 [.slice ta tn tc] := Row.self w4 _ _
            have T5 : TBL (w4.alloc (.cells #[.slice ta tn tc] 27)) (.slice ta tn tc) t := HTT.out.below ((Below.refl _ _).alloc (Nat.le_refl _) _)
            have hbz5 : b ≤ (w4.alloc (.cells #[.slice ta tn tc] 27)).heap.size := by rw [World.size_alloc]; omega
            generalize hw5 : w4.alloc (.cells #[.slice ta tn tc] 27) = w5 at B5 R5 T5 hbz5
            have HW5 := Lib.hid hw5
            have HR5 := Lib.hid R5
            have HT5 := Lib.hid T5
            clear hw5 R5 T5
            have HVG4 : Hid (∀ W, SZ w5 W → VG W) := Lib.hid fun W h => HVG.out W (B5.out.trans (Below.mono h hbz5))
            have HNP := Lib.hid (fun s W h1 h2 => New_perm [] [] t (fun r hr => by cases hr) (by decide) (List.Perm.refl _) HTN.out s W h1 h2)
            rcases a with _ | ⟨g, off, sp⟩
            · go_wp2_with fail
              try rw [HW5.out]
              refine wp_join (ι := Value × Value × Value × Value × Nat) (fun a9 z => (((((((((((((((a9.put (some 57) (.slice none 0 cap)).put (some 58) (.int .i64 0)).put (some 59) (.slice none 0 cap)).put (some 61) (.slice none 0 cap)).put (some 62) (.int .i64 0)).put (some 63) (.slice none 0 cap)).put (some 56) (z.1)).put (some 60) (z.2.1)).put (some 64) (z.2.2.1)).put (some 65) ((.tuple #[.agg #[z.2.2.2.1], .int .i64 0]))).put (some 55) ((.tuple #[.agg #[z.2.2.2.1], .int .i64 0]))).put (some 66) ((.agg #[z.2.2.2.1]))).put (some 67) (.int .i64 0)).put (some 10) (.pointer (some ⟨z.2.2.2.2, 0, none⟩))).put (some 11) (.int .i64 0)))
                (fun z w' => Row w' z.2.2.2.2 27 [z.2.2.2.1] ∧ TBL w' z.2.2.2.1 t ∧ SZ w5 w') ?_ ?_
              · refine wp_region_noPanic ?_
                refine wp_region_held_drew (S := fun W => SZ w5 W) (by kernel_rfl) (SZ.dr w5) (fun hHeld => ?_)
                have S0 := SZ.dr w5
                generalize hY0 : w5.drew = Y0 at S0 hHeld ⊢
                clear hY0
                refine wpAnyH_take (i := 1) (oi := { dst := some 57, op := Op.move (Operand.tmp 0), type := 25, pos := "law.go:140", after := #[], guard := none }) (v := ?vvz22_1) rfl (by kernel_rfl) (by kernel_rfl) (by kernel_rfl) (fun _ _ _ h => h) (Or.inl ⟨by rfl, ?yyz22_1⟩) hHeld ?_
                case vvz22_1 => exact .slice none 0 cap
                case yyz22_1 =>
                  intro W hS
                  go_simp
                try simp only [Act.put, List.setIfInBounds_toArray, List.set_cons_zero, List.set_cons_succ]
                refine wpAnyH_take (i := 2) (oi := { dst := some 58, op := Op.move (Operand.tmp 9), type := 3, pos := "law.go:140", after := #[], guard := none }) (v := ?vvz23_2) rfl (by kernel_rfl) (by kernel_rfl) (by kernel_rfl) (fun _ _ _ h => h) (Or.inl ⟨by rfl, ?yyz23_2⟩) hHeld ?_
                case vvz23_2 => exact .int .i64 0
                case yyz23_2 =>
                  intro W hS
                  go_simp
                try simp only [Act.put, List.setIfInBounds_toArray, List.set_cons_zero, List.set_cons_succ]
                refine wpAnyH_take (i := 3) (oi := { dst := some 59, op := Op.slice 25 (Operand.tmp 57) (some (Operand.tmp 58)) none none, type := 25, pos := "law.go:140", after := #[{ on := 1, ground := Ground.data }, { on := 2, ground := Ground.data }], guard := none }) (v := ?vvz24_3) rfl (by kernel_rfl) (by kernel_rfl) (by kernel_rfl) (fun _ _ _ h => h) (Or.inl ⟨by rfl, ?yyz24_3⟩) hHeld ?_
                case vvz24_3 => exact .slice none 0 cap
                case yyz24_3 =>
                  intro W hS
                  go_simp
                try simp only [Act.put, List.setIfInBounds_toArray, List.set_cons_zero, List.set_cons_succ]
                refine wpAnyH_take (i := 5) (oi := { dst := some 61, op := Op.move (Operand.tmp 0), type := 25, pos := "law.go:140", after := #[], guard := none }) (v := ?vvz25_5) rfl (by kernel_rfl) (by kernel_rfl) (by kernel_rfl) (fun _ _ _ h => h) (Or.inl ⟨by rfl, ?yyz25_5⟩) hHeld ?_
                case vvz25_5 => exact .slice none 0 cap
                case yyz25_5 =>
                  intro W hS
                  go_simp
                try simp only [Act.put, List.setIfInBounds_toArray, List.set_cons_zero, List.set_cons_succ]
                refine wpAnyH_take (i := 6) (oi := { dst := some 62, op := Op.move (Operand.tmp 9), type := 3, pos := "law.go:140", after := #[], guard := none }) (v := ?vvz26_6) rfl (by kernel_rfl) (by kernel_rfl) (by kernel_rfl) (fun _ _ _ h => h) (Or.inl ⟨by rfl, ?yyz26_6⟩) hHeld ?_
                case vvz26_6 => exact .int .i64 0
                case yyz26_6 =>
                  intro W hS
                  go_simp
                try simp only [Act.put, List.setIfInBounds_toArray, List.set_cons_zero, List.set_cons_succ]
                refine wpAnyH_take (i := 7) (oi := { dst := some 63, op := Op.slice 25 (Operand.tmp 61) none (some (Operand.tmp 62)) none, type := 25, pos := "law.go:140", after := #[{ on := 5, ground := Ground.data }, { on := 6, ground := Ground.data }], guard := none }) (v := ?vvz27_7) rfl (by kernel_rfl) (by kernel_rfl) (by kernel_rfl) (fun _ _ _ h => h) (Or.inl ⟨by rfl, ?yyz27_7⟩) hHeld ?_
                case vvz27_7 => exact .slice none 0 cap
                case yyz27_7 =>
                  intro W hS
                  go_simp
                try simp only [Act.put, List.setIfInBounds_toArray, List.set_cons_zero, List.set_cons_succ]
                refine wpAnyH_ready (rs := [0, 13]) (by kernel_rfl) (by simp) (AllReadyH.cons (o := { dst := some 56, op := Op.buildSlice 25 0 #[], type := 25, pos := "law.go:140", after := #[], guard := none }) rfl (fun K hK => ?_) (AllReadyH.cons (o := { dst := some 10, op := Op.alloc 27, type := 0, pos := "law.go:140", after := #[], guard := none }) rfl (fun K hK => ?_) AllReadyH.nil))
                · go_simp
                  have S1 := SZ.al S0 (.cells #[] 30)
                  have O1 : OWN w5.heap.size (Y0.alloc (.cells #[] 30)) (.slice (some ⟨Y0.heap.size, 0, none⟩) 0 0) [] := OWN.weak (World.ownsRow_made (size := 6) Y0 #[] 0 (Nat.le_refl _) (Nat.zero_le _) rfl) S0.size
                  generalize hY1 : Y0.alloc (.cells #[] 30) = Y1 at S1 O1 ⊢
                  clear hY1
                  refine hK.out _ _ S1 (fun hHeld => ?_)
                  clear hK K
                  try simp only [Act.put, List.setIfInBounds_toArray, List.set_cons_zero, List.set_cons_succ]
                  refine wpAnyH_ready (rs := [4, 13]) (by kernel_rfl) (by simp) (AllReadyH.cons (o := { dst := some 60, op := Op.call { callee := Callee.builtin Builtin.append, args := #[Operand.tmp 56, Operand.tmp 59], argTypes := #[25, 25] }, type := 25, pos := "law.go:140", after := #[{ on := 0, ground := Ground.data }, { on := 3, ground := Ground.data }], guard := none }) rfl (fun K hK => ?_) (AllReadyH.cons (o := { dst := some 10, op := Op.alloc 27, type := 0, pos := "law.go:140", after := #[], guard := none }) rfl (fun K hK => ?_) AllReadyH.nil))
                  · refine step_append_r rfl _ _ 25 25 rfl (.slice (some ⟨Y0.heap.size, 0, none⟩) 0 0) (.slice none 0 cap) (by simp [Act.eval, Act.put]) (by simp [Act.eval, Act.put]) (append_none O1 cap) ?_
                    try simp only [Act.put, List.setIfInBounds_toArray, List.set_cons_zero, List.set_cons_succ]
                    have S2 := S1
                    refine hK.out _ _ S1 (fun hHeld => ?_)
                    clear hK K
                    try simp only [Act.put, List.setIfInBounds_toArray, List.set_cons_zero, List.set_cons_succ]
                    refine wpAnyH_ready (rs := [8, 13]) (by kernel_rfl) (by simp) (AllReadyH.cons (o := { dst := some 64, op := Op.call { callee := Callee.builtin Builtin.append, args := #[Operand.tmp 60, Operand.tmp 63], argTypes := #[25, 25] }, type := 25, pos := "law.go:140", after := #[{ on := 4, ground := Ground.data }, { on := 7, ground := Ground.data }, { on := 4, ground := Ground.chain }], guard := none }) rfl (fun K hK => ?_) (AllReadyH.cons (o := { dst := some 10, op := Op.alloc 27, type := 0, pos := "law.go:140", after := #[], guard := none }) rfl (fun K hK => ?_) AllReadyH.nil))
                    · refine step_append_r rfl _ _ 25 25 rfl (.slice (some ⟨Y0.heap.size, 0, none⟩) 0 0) (.slice none 0 cap) (by simp [Act.eval, Act.put]) (by simp [Act.eval, Act.put]) (append_none O1 cap) ?_
                      try simp only [Act.put, List.setIfInBounds_toArray, List.set_cons_zero, List.set_cons_succ]
                      have S3 := S1
                      refine hK.out _ _ S1 (fun hHeld => ?_)
                      clear hK K
                      try simp only [Act.put, List.setIfInBounds_toArray, List.set_cons_zero, List.set_cons_succ]
                      refine wpAnyH_ready (rs := [9, 13]) (by kernel_rfl) (by simp) (AllReadyH.cons (o := { dst := some 65, op := Op.call { callee := Callee.value (Operand.func 19), args := #[Operand.tmp 64], argTypes := #[25] }, type := 35, pos := "law.go:140", after := #[{ on := 8, ground := Ground.data }, { on := 8, ground := Ground.chain }], guard := none }) rfl (fun K hK => ?_) (AllReadyH.cons (o := { dst := some 10, op := Op.alloc 27, type := 0, pos := "law.go:140", after := #[], guard := none }) rfl (fun K hK => ?_) AllReadyH.nil))
                      · go_simp
                        go_at_call 19
                        refine (HNP.out _ _ (HVG4.out _ S1) (OWN.tbl O1)).mono ?_
                        rintro e x4 ⟨hb4, s4, rfl, T4⟩
                        have S4 := SZ.next S1 hb4
                        refine hK.out _ _ S4 (fun hHeld => ?_)
                        clear hK K
                        try simp only [Act.put, List.setIfInBounds_toArray, List.set_cons_zero, List.set_cons_succ]
                        refine wpAnyH_take (i := 10) (oi := { dst := some 55, op := Op.move (Operand.tmp 65), type := 35, pos := "law.go:140", after := #[{ on := 9, ground := Ground.data }], guard := none }) (v := ?vvz28_10) rfl (by kernel_rfl) (by kernel_rfl) (by kernel_rfl) (fun _ _ _ h => h) (Or.inl ⟨by rfl, ?yyz28_10⟩) hHeld ?_
                        case vvz28_10 => exact .tuple #[.agg #[s4], .int .i64 0]
                        case yyz28_10 =>
                          intro W hS
                          go_simp
                        try simp only [Act.put, List.setIfInBounds_toArray, List.set_cons_zero, List.set_cons_succ]
                        refine wpAnyH_take (i := 11) (oi := { dst := some 66, op := Op.extract (Operand.tmp 55) 0, type := 27, pos := "law.go:140", after := #[{ on := 10, ground := Ground.data }], guard := none }) (v := ?vvz29_11) rfl (by kernel_rfl) (by kernel_rfl) (by kernel_rfl) (fun _ _ _ h => h) (Or.inl ⟨by rfl, ?yyz29_11⟩) hHeld ?_
                        case vvz29_11 => exact .agg #[s4]
                        case yyz29_11 =>
                          intro W hS
                          go_simp
                        try simp only [Act.put, List.setIfInBounds_toArray, List.set_cons_zero, List.set_cons_succ]
                        refine wpAnyH_take (i := 12) (oi := { dst := some 67, op := Op.extract (Operand.tmp 55) 1, type := 34, pos := "law.go:140", after := #[{ on := 10, ground := Ground.data }, { on := 14, ground := Ground.gcOnly Departure.lateStores }], guard := none }) (v := ?vvz30_12) rfl (by kernel_rfl) (by kernel_rfl) (by kernel_rfl) (fun _ _ _ h => h) (Or.inl ⟨by rfl, ?yyz30_12⟩) hHeld ?_
                        case vvz30_12 => exact .int .i64 0
                        case yyz30_12 =>
                          intro W hS
                          go_simp
                        try simp only [Act.put, List.setIfInBounds_toArray, List.set_cons_zero, List.set_cons_succ]
                        refine wpAnyH_ready (rs := [13]) (by kernel_rfl) (by simp) (AllReadyH.cons (o := { dst := some 10, op := Op.alloc 27, type := 0, pos := "law.go:140", after := #[], guard := none }) rfl (fun K hK => ?_) AllReadyH.nil)
                        go_simp
                        have S5 := SZ.al S4 (.cells #[.slice none 0 0] 27)
                        have hge_5 : w5.heap.size ≤ x4.heap.size := S4.size
                        have R5 : Row (x4.alloc (.cells #[.slice none 0 0] 27)) (x4.heap.size) 27 [.slice none 0 0] := Row.self x4 _ _
                        have T5 := TBL.below T4 ((Below.refl _ _).alloc (Nat.le_refl _) (.cells #[.slice none 0 0] 27))
                        generalize hY5 : x4.alloc (.cells #[.slice none 0 0] 27) = Y5 at S5 R5 T5 ⊢
                        clear hY5
                        refine hK.out _ _ S5 (fun hHeld => ?_)
                        clear hK K
                        try simp only [Act.put, List.setIfInBounds_toArray, List.set_cons_zero, List.set_cons_succ]
                        refine wpAnyH_ready (rs := [14]) (by kernel_rfl) (by simp) (AllReadyH.cons (o := { dst := none, op := Op.store 27 (Operand.tmp 10) (Operand.tmp 66), type := 0, pos := "law.go:140", after := #[{ on := 13, ground := Ground.data }, { on := 11, ground := Ground.data }, { on := 9, ground := Ground.chain }, { on := 0, ground := Ground.phase }, { on := 1, ground := Ground.phase }, { on := 2, ground := Ground.phase }, { on := 3, ground := Ground.phase }, { on := 4, ground := Ground.phase }, { on := 5, ground := Ground.phase }, { on := 6, ground := Ground.phase }, { on := 7, ground := Ground.phase }, { on := 8, ground := Ground.phase }, { on := 9, ground := Ground.phase }, { on := 10, ground := Ground.phase }, { on := 11, ground := Ground.phase }, { on := 12, ground := Ground.textOnly Departure.lateStores }, { on := 13, ground := Ground.phase }], guard := none }) rfl (fun K hK => ?_) AllReadyH.nil)
                        have e6 := R5.cell 0
                        have f6 := R5.frozen 0
                        simp only [List.getElem?_cons_zero] at e6
                        obtain ⟨ya6, yn6, yc6, rfl⟩ : ∃ a n c, s4 = Value.slice a n c := (by obtain ⟨a, c, h⟩ := TBL.slice T5; exact ⟨a, _, c, h⟩)
                        have hz6 : w5.heap.size ≤ x4.heap.size := hge_5
                        go_simp
                        have S6 := SZ.set S5 (hz6) (.slice ya6 yn6 yc6)
                        have R6 := R5.set 0 (.slice ya6 yn6 yc6)
                        have T6 := TBL.store (v := .slice ya6 yn6 yc6) T5 R5
                        refine hK.out _ _ S6 (fun hHeld => ?_)
                        clear hK K
                        try simp only [Act.put, List.setIfInBounds_toArray, List.set_cons_zero, List.set_cons_succ]
                        refine wpAnyH_ready (rs := [15]) (by kernel_rfl) (by simp) (AllReadyH.cons (o := { dst := some 11, op := Op.assign (Operand.tmp 67), type := 34, pos := "law.go:140", after := #[{ on := 12, ground := Ground.data }, { on := 14, ground := Ground.chain }, { on := 0, ground := Ground.phase }, { on := 1, ground := Ground.phase }, { on := 2, ground := Ground.phase }, { on := 3, ground := Ground.phase }, { on := 4, ground := Ground.phase }, { on := 5, ground := Ground.phase }, { on := 6, ground := Ground.phase }, { on := 7, ground := Ground.phase }, { on := 8, ground := Ground.phase }, { on := 9, ground := Ground.phase }, { on := 10, ground := Ground.phase }, { on := 11, ground := Ground.phase }, { on := 12, ground := Ground.phase }, { on := 13, ground := Ground.phase }, { on := 14, ground := Ground.phase }], guard := none }) rfl (fun K hK => ?_) AllReadyH.nil)
                        go_simp
                        refine hK.out _ _ S6 (fun hHeld => ?_)
                        clear hK K
                        try simp only [Act.put, List.setIfInBounds_toArray, List.set_cons_zero, List.set_cons_succ]
                        refine wpAnyH_done (by kernel_rfl) ?_ _
                        refine NoPanic.normal ?_
                        exact ⟨rfl, ((.slice (some ⟨Y0.heap.size, 0, none⟩) 0 0), (.slice (some ⟨Y0.heap.size, 0, none⟩) 0 0), (.slice (some ⟨Y0.heap.size, 0, none⟩) 0 0), .slice ya6 yn6 yc6, x4.heap.size), rfl, R6, T6, S6⟩
                      · go_simp
                        have S7 := SZ.al S1 (.cells #[.slice none 0 0] 27)
                        have hge_7 : w5.heap.size ≤ Y1.heap.size := S1.size
                        have R7 : Row (Y1.alloc (.cells #[.slice none 0 0] 27)) (Y1.heap.size) 27 [.slice none 0 0] := Row.self Y1 _ _
                        have O7 := OWN.alloc O1 (.cells #[.slice none 0 0] 27)
                        generalize hY7 : (Y1.alloc (.cells #[.slice none 0 0] 27)) = Y7 at S7 R7 O7 ⊢
                        clear hY7
                        refine hK.out _ _ S7 (fun hHeld => ?_)
                        clear hK K
                        try simp only [Act.put, List.setIfInBounds_toArray, List.set_cons_zero, List.set_cons_succ]
                        refine wpAnyH_ready (rs := [9]) (by kernel_rfl) (by simp) (AllReadyH.cons (o := { dst := some 65, op := Op.call { callee := Callee.value (Operand.func 19), args := #[Operand.tmp 64], argTypes := #[25] }, type := 35, pos := "law.go:140", after := #[{ on := 8, ground := Ground.data }, { on := 8, ground := Ground.chain }], guard := none }) rfl (fun K hK => ?_) AllReadyH.nil)
                        go_simp
                        go_at_call 19
                        refine (HNP.out _ _ (HVG4.out _ S7) (OWN.tbl O7)).mono ?_
                        rintro e x8 ⟨hb8, s8, rfl, T8⟩
                        have S8 := SZ.next S7 hb8
                        have R8 := R7.below hb8 R7.lt
                        refine hK.out _ _ S8 (fun hHeld => ?_)
                        clear hK K
                        try simp only [Act.put, List.setIfInBounds_toArray, List.set_cons_zero, List.set_cons_succ]
                        refine wpAnyH_take (i := 10) (oi := { dst := some 55, op := Op.move (Operand.tmp 65), type := 35, pos := "law.go:140", after := #[{ on := 9, ground := Ground.data }], guard := none }) (v := ?vvz31_10) rfl (by kernel_rfl) (by kernel_rfl) (by kernel_rfl) (fun _ _ _ h => h) (Or.inl ⟨by rfl, ?yyz31_10⟩) hHeld ?_
                        case vvz31_10 => exact .tuple #[.agg #[s8], .int .i64 0]
                        case yyz31_10 =>
                          intro W hS
                          go_simp
                        try simp only [Act.put, List.setIfInBounds_toArray, List.set_cons_zero, List.set_cons_succ]
                        refine wpAnyH_take (i := 11) (oi := { dst := some 66, op := Op.extract (Operand.tmp 55) 0, type := 27, pos := "law.go:140", after := #[{ on := 10, ground := Ground.data }], guard := none }) (v := ?vvz32_11) rfl (by kernel_rfl) (by kernel_rfl) (by kernel_rfl) (fun _ _ _ h => h) (Or.inl ⟨by rfl, ?yyz32_11⟩) hHeld ?_
                        case vvz32_11 => exact .agg #[s8]
                        case yyz32_11 =>
                          intro W hS
                          go_simp
                        try simp only [Act.put, List.setIfInBounds_toArray, List.set_cons_zero, List.set_cons_succ]
                        refine wpAnyH_take (i := 12) (oi := { dst := some 67, op := Op.extract (Operand.tmp 55) 1, type := 34, pos := "law.go:140", after := #[{ on := 10, ground := Ground.data }, { on := 14, ground := Ground.gcOnly Departure.lateStores }], guard := none }) (v := ?vvz33_12) rfl (by kernel_rfl) (by kernel_rfl) (by kernel_rfl) (fun _ _ _ h => h) (Or.inl ⟨by rfl, ?yyz33_12⟩) hHeld ?_
                        case vvz33_12 => exact .int .i64 0
                        case yyz33_12 =>
                          intro W hS
                          go_simp
                        try simp only [Act.put, List.setIfInBounds_toArray, List.set_cons_zero, List.set_cons_succ]
                        refine wpAnyH_ready (rs := [14]) (by kernel_rfl) (by simp) (AllReadyH.cons (o := { dst := none, op := Op.store 27 (Operand.tmp 10) (Operand.tmp 66), type := 0, pos := "law.go:140", after := #[{ on := 13, ground := Ground.data }, { on := 11, ground := Ground.data }, { on := 9, ground := Ground.chain }, { on := 0, ground := Ground.phase }, { on := 1, ground := Ground.phase }, { on := 2, ground := Ground.phase }, { on := 3, ground := Ground.phase }, { on := 4, ground := Ground.phase }, { on := 5, ground := Ground.phase }, { on := 6, ground := Ground.phase }, { on := 7, ground := Ground.phase }, { on := 8, ground := Ground.phase }, { on := 9, ground := Ground.phase }, { on := 10, ground := Ground.phase }, { on := 11, ground := Ground.phase }, { on := 12, ground := Ground.textOnly Departure.lateStores }, { on := 13, ground := Ground.phase }], guard := none }) rfl (fun K hK => ?_) AllReadyH.nil)
                        have e9 := R8.cell 0
                        have f9 := R8.frozen 0
                        simp only [List.getElem?_cons_zero] at e9
                        obtain ⟨ya9, yn9, yc9, rfl⟩ : ∃ a n c, s8 = Value.slice a n c := (by obtain ⟨a, c, h⟩ := TBL.slice T8; exact ⟨a, _, c, h⟩)
                        have hz9 : w5.heap.size ≤ Y1.heap.size := hge_7
                        go_simp
                        have S9 := SZ.set S8 (hz9) (.slice ya9 yn9 yc9)
                        have R9 := R8.set 0 (.slice ya9 yn9 yc9)
                        have T9 := TBL.store (v := .slice ya9 yn9 yc9) T8 R8
                        refine hK.out _ _ S9 (fun hHeld => ?_)
                        clear hK K
                        try simp only [Act.put, List.setIfInBounds_toArray, List.set_cons_zero, List.set_cons_succ]
                        refine wpAnyH_ready (rs := [15]) (by kernel_rfl) (by simp) (AllReadyH.cons (o := { dst := some 11, op := Op.assign (Operand.tmp 67), type := 34, pos := "law.go:140", after := #[{ on := 12, ground := Ground.data }, { on := 14, ground := Ground.chain }, { on := 0, ground := Ground.phase }, { on := 1, ground := Ground.phase }, { on := 2, ground := Ground.phase }, { on := 3, ground := Ground.phase }, { on := 4, ground := Ground.phase }, { on := 5, ground := Ground.phase }, { on := 6, ground := Ground.phase }, { on := 7, ground := Ground.phase }, { on := 8, ground := Ground.phase }, { on := 9, ground := Ground.phase }, { on := 10, ground := Ground.phase }, { on := 11, ground := Ground.phase }, { on := 12, ground := Ground.phase }, { on := 13, ground := Ground.phase }, { on := 14, ground := Ground.phase }], guard := none }) rfl (fun K hK => ?_) AllReadyH.nil)
                        go_simp
                        refine hK.out _ _ S9 (fun hHeld => ?_)
                        clear hK K
                        try simp only [Act.put, List.setIfInBounds_toArray, List.set_cons_zero, List.set_cons_succ]
                        refine wpAnyH_done (by kernel_rfl) ?_ _
                        refine NoPanic.normal ?_
                        exact ⟨rfl, ((.slice (some ⟨Y0.heap.size, 0, none⟩) 0 0), (.slice (some ⟨Y0.heap.size, 0, none⟩) 0 0), (.slice (some ⟨Y0.heap.size, 0, none⟩) 0 0), .slice ya9 yn9 yc9, Y1.heap.size), rfl, R9, T9, S9⟩
                    · go_simp
                      have S10 := SZ.al S1 (.cells #[.slice none 0 0] 27)
                      have hge_10 : w5.heap.size ≤ Y1.heap.size := S1.size
                      have R10 : Row (Y1.alloc (.cells #[.slice none 0 0] 27)) (Y1.heap.size) 27 [.slice none 0 0] := Row.self Y1 _ _
                      have O10 := OWN.alloc O1 (.cells #[.slice none 0 0] 27)
                      generalize hY10 : (Y1.alloc (.cells #[.slice none 0 0] 27)) = Y10 at S10 R10 O10 ⊢
                      clear hY10
                      refine hK.out _ _ S10 (fun hHeld => ?_)
                      clear hK K
                      try simp only [Act.put, List.setIfInBounds_toArray, List.set_cons_zero, List.set_cons_succ]
                      refine wpAnyH_ready (rs := [8]) (by kernel_rfl) (by simp) (AllReadyH.cons (o := { dst := some 64, op := Op.call { callee := Callee.builtin Builtin.append, args := #[Operand.tmp 60, Operand.tmp 63], argTypes := #[25, 25] }, type := 25, pos := "law.go:140", after := #[{ on := 4, ground := Ground.data }, { on := 7, ground := Ground.data }, { on := 4, ground := Ground.chain }], guard := none }) rfl (fun K hK => ?_) AllReadyH.nil)
                      refine step_append_r rfl _ _ 25 25 rfl (.slice (some ⟨Y0.heap.size, 0, none⟩) 0 0) (.slice none 0 cap) (by simp [Act.eval, Act.put]) (by simp [Act.eval, Act.put]) (append_none O10 cap) ?_
                      try simp only [Act.put, List.setIfInBounds_toArray, List.set_cons_zero, List.set_cons_succ]
                      have S11 := S10
                      refine hK.out _ _ S10 (fun hHeld => ?_)
                      clear hK K
                      try simp only [Act.put, List.setIfInBounds_toArray, List.set_cons_zero, List.set_cons_succ]
                      refine wpAnyH_ready (rs := [9]) (by kernel_rfl) (by simp) (AllReadyH.cons (o := { dst := some 65, op := Op.call { callee := Callee.value (Operand.func 19), args := #[Operand.tmp 64], argTypes := #[25] }, type := 35, pos := "law.go:140", after := #[{ on := 8, ground := Ground.data }, { on := 8, ground := Ground.chain }], guard := none }) rfl (fun K hK => ?_) AllReadyH.nil)
                      go_simp
                      go_at_call 19
                      refine (HNP.out _ _ (HVG4.out _ S10) (OWN.tbl O10)).mono ?_
                      rintro e x12 ⟨hb12, s12, rfl, T12⟩
                      have S12 := SZ.next S10 hb12
                      have R12 := R10.below hb12 R10.lt
                      refine hK.out _ _ S12 (fun hHeld => ?_)
                      clear hK K
                      try simp only [Act.put, List.setIfInBounds_toArray, List.set_cons_zero, List.set_cons_succ]
                      refine wpAnyH_take (i := 10) (oi := { dst := some 55, op := Op.move (Operand.tmp 65), type := 35, pos := "law.go:140", after := #[{ on := 9, ground := Ground.data }], guard := none }) (v := ?vvz34_10) rfl (by kernel_rfl) (by kernel_rfl) (by kernel_rfl) (fun _ _ _ h => h) (Or.inl ⟨by rfl, ?yyz34_10⟩) hHeld ?_
                      case vvz34_10 => exact .tuple #[.agg #[s12], .int .i64 0]
                      case yyz34_10 =>
                        intro W hS
                        go_simp
                      try simp only [Act.put, List.setIfInBounds_toArray, List.set_cons_zero, List.set_cons_succ]
                      refine wpAnyH_take (i := 11) (oi := { dst := some 66, op := Op.extract (Operand.tmp 55) 0, type := 27, pos := "law.go:140", after := #[{ on := 10, ground := Ground.data }], guard := none }) (v := ?vvz35_11) rfl (by kernel_rfl) (by kernel_rfl) (by kernel_rfl) (fun _ _ _ h => h) (Or.inl ⟨by rfl, ?yyz35_11⟩) hHeld ?_
                      case vvz35_11 => exact .agg #[s12]
                      case yyz35_11 =>
                        intro W hS
                        go_simp
                      try simp only [Act.put, List.setIfInBounds_toArray, List.set_cons_zero, List.set_cons_succ]
                      refine wpAnyH_take (i := 12) (oi := { dst := some 67, op := Op.extract (Operand.tmp 55) 1, type := 34, pos := "law.go:140", after := #[{ on := 10, ground := Ground.data }, { on := 14, ground := Ground.gcOnly Departure.lateStores }], guard := none }) (v := ?vvz36_12) rfl (by kernel_rfl) (by kernel_rfl) (by kernel_rfl) (fun _ _ _ h => h) (Or.inl ⟨by rfl, ?yyz36_12⟩) hHeld ?_
                      case vvz36_12 => exact .int .i64 0
                      case yyz36_12 =>
                        intro W hS
                        go_simp
                      try simp only [Act.put, List.setIfInBounds_toArray, List.set_cons_zero, List.set_cons_succ]
                      refine wpAnyH_ready (rs := [14]) (by kernel_rfl) (by simp) (AllReadyH.cons (o := { dst := none, op := Op.store 27 (Operand.tmp 10) (Operand.tmp 66), type := 0, pos := "law.go:140", after := #[{ on := 13, ground := Ground.data }, { on := 11, ground := Ground.data }, { on := 9, ground := Ground.chain }, { on := 0, ground := Ground.phase }, { on := 1, ground := Ground.phase }, { on := 2, ground := Ground.phase }, { on := 3, ground := Ground.phase }, { on := 4, ground := Ground.phase }, { on := 5, ground := Ground.phase }, { on := 6, ground := Ground.phase }, { on := 7, ground := Ground.phase }, { on := 8, ground := Ground.phase }, { on := 9, ground := Ground.phase }, { on := 10, ground := Ground.phase }, { on := 11, ground := Ground.phase }, { on := 12, ground := Ground.textOnly Departure.lateStores }, { on := 13, ground := Ground.phase }], guard := none }) rfl (fun K hK => ?_) AllReadyH.nil)
                      have e13 := R12.cell 0
                      have f13 := R12.frozen 0
                      simp only [List.getElem?_cons_zero] at e13
                      obtain ⟨ya13, yn13, yc13, rfl⟩ : ∃ a n c, s12 = Value.slice a n c := (by obtain ⟨a, c, h⟩ := TBL.slice T12; exact ⟨a, _, c, h⟩)
                      have hz13 : w5.heap.size ≤ Y1.heap.size := hge_10
                      go_simp
                      have S13 := SZ.set S12 (hz13) (.slice ya13 yn13 yc13)
                      have R13 := R12.set 0 (.slice ya13 yn13 yc13)
                      have T13 := TBL.store (v := .slice ya13 yn13 yc13) T12 R12
                      refine hK.out _ _ S13 (fun hHeld => ?_)
                      clear hK K
                      try simp only [Act.put, List.setIfInBounds_toArray, List.set_cons_zero, List.set_cons_succ]
                      refine wpAnyH_ready (rs := [15]) (by kernel_rfl) (by simp) (AllReadyH.cons (o := { dst := some 11, op := Op.assign (Operand.tmp 67), type := 34, pos := "law.go:140", after := #[{ on := 12, ground := Ground.data }, { on := 14, ground := Ground.chain }, { on := 0, ground := Ground.phase }, { on := 1, ground := Ground.phase }, { on := 2, ground := Ground.phase }, { on := 3, ground := Ground.phase }, { on := 4, ground := Ground.phase }, { on := 5, ground := Ground.phase }, { on := 6, ground := Ground.phase }, { on := 7, ground := Ground.phase }, { on := 8, ground := Ground.phase }, { on := 9, ground := Ground.phase }, { on := 10, ground := Ground.phase }, { on := 11, ground := Ground.phase }, { on := 12, ground := Ground.phase }, { on := 13, ground := Ground.phase }, { on := 14, ground := Ground.phase }], guard := none }) rfl (fun K hK => ?_) AllReadyH.nil)
                      go_simp
                      refine hK.out _ _ S13 (fun hHeld => ?_)
                      clear hK K
                      try simp only [Act.put, List.setIfInBounds_toArray, List.set_cons_zero, List.set_cons_succ]
                      refine wpAnyH_done (by kernel_rfl) ?_ _
                      refine NoPanic.normal ?_
                      exact ⟨rfl, ((.slice (some ⟨Y0.heap.size, 0, none⟩) 0 0), (.slice (some ⟨Y0.heap.size, 0, none⟩) 0 0), (.slice (some ⟨Y0.heap.size, 0, none⟩) 0 0), .slice ya13 yn13 yc13, Y1.heap.size), rfl, R13, T13, S13⟩
                  · go_simp
                    have S14 := SZ.al S1 (.cells #[.slice none 0 0] 27)
                    have hge_14 : w5.heap.size ≤ Y1.heap.size := S1.size
                    have R14 : Row (Y1.alloc (.cells #[.slice none 0 0] 27)) (Y1.heap.size) 27 [.slice none 0 0] := Row.self Y1 _ _
                    have O14 := OWN.alloc O1 (.cells #[.slice none 0 0] 27)
                    generalize hY14 : (Y1.alloc (.cells #[.slice none 0 0] 27)) = Y14 at S14 R14 O14 ⊢
                    clear hY14
                    refine hK.out _ _ S14 (fun hHeld => ?_)
                    clear hK K
                    try simp only [Act.put, List.setIfInBounds_toArray, List.set_cons_zero, List.set_cons_succ]
                    refine wpAnyH_ready (rs := [4]) (by kernel_rfl) (by simp) (AllReadyH.cons (o := { dst := some 60, op := Op.call { callee := Callee.builtin Builtin.append, args := #[Operand.tmp 56, Operand.tmp 59], argTypes := #[25, 25] }, type := 25, pos := "law.go:140", after := #[{ on := 0, ground := Ground.data }, { on := 3, ground := Ground.data }], guard := none }) rfl (fun K hK => ?_) AllReadyH.nil)
                    refine step_append_r rfl _ _ 25 25 rfl (.slice (some ⟨Y0.heap.size, 0, none⟩) 0 0) (.slice none 0 cap) (by simp [Act.eval, Act.put]) (by simp [Act.eval, Act.put]) (append_none O14 cap) ?_
                    try simp only [Act.put, List.setIfInBounds_toArray, List.set_cons_zero, List.set_cons_succ]
                    have S15 := S14
                    refine hK.out _ _ S14 (fun hHeld => ?_)
                    clear hK K
                    try simp only [Act.put, List.setIfInBounds_toArray, List.set_cons_zero, List.set_cons_succ]
                    refine wpAnyH_ready (rs := [8]) (by kernel_rfl) (by simp) (AllReadyH.cons (o := { dst := some 64, op := Op.call { callee := Callee.builtin Builtin.append, args := #[Operand.tmp 60, Operand.tmp 63], argTypes := #[25, 25] }, type := 25, pos := "law.go:140", after := #[{ on := 4, ground := Ground.data }, { on := 7, ground := Ground.data }, { on := 4, ground := Ground.chain }], guard := none }) rfl (fun K hK => ?_) AllReadyH.nil)
                    refine step_append_r rfl _ _ 25 25 rfl (.slice (some ⟨Y0.heap.size, 0, none⟩) 0 0) (.slice none 0 cap) (by simp [Act.eval, Act.put]) (by simp [Act.eval, Act.put]) (append_none O14 cap) ?_
                    try simp only [Act.put, List.setIfInBounds_toArray, List.set_cons_zero, List.set_cons_succ]
                    have S16 := S14
                    refine hK.out _ _ S14 (fun hHeld => ?_)
                    clear hK K
                    try simp only [Act.put, List.setIfInBounds_toArray, List.set_cons_zero, List.set_cons_succ]
                    refine wpAnyH_ready (rs := [9]) (by kernel_rfl) (by simp) (AllReadyH.cons (o := { dst := some 65, op := Op.call { callee := Callee.value (Operand.func 19), args := #[Operand.tmp 64], argTypes := #[25] }, type := 35, pos := "law.go:140", after := #[{ on := 8, ground := Ground.data }, { on := 8, ground := Ground.chain }], guard := none }) rfl (fun K hK => ?_) AllReadyH.nil)
                    go_simp
                    go_at_call 19
                    refine (HNP.out _ _ (HVG4.out _ S14) (OWN.tbl O14)).mono ?_
                    rintro e x17 ⟨hb17, s17, rfl, T17⟩
                    have S17 := SZ.next S14 hb17
                    have R17 := R14.below hb17 R14.lt
                    refine hK.out _ _ S17 (fun hHeld => ?_)
                    clear hK K
                    try simp only [Act.put, List.setIfInBounds_toArray, List.set_cons_zero, List.set_cons_succ]
                    refine wpAnyH_take (i := 10) (oi := { dst := some 55, op := Op.move (Operand.tmp 65), type := 35, pos := "law.go:140", after := #[{ on := 9, ground := Ground.data }], guard := none }) (v := ?vvz37_10) rfl (by kernel_rfl) (by kernel_rfl) (by kernel_rfl) (fun _ _ _ h => h) (Or.inl ⟨by rfl, ?yyz37_10⟩) hHeld ?_
                    case vvz37_10 => exact .tuple #[.agg #[s17], .int .i64 0]
                    case yyz37_10 =>
                      intro W hS
                      go_simp
                    try simp only [Act.put, List.setIfInBounds_toArray, List.set_cons_zero, List.set_cons_succ]
                    refine wpAnyH_take (i := 11) (oi := { dst := some 66, op := Op.extract (Operand.tmp 55) 0, type := 27, pos := "law.go:140", after := #[{ on := 10, ground := Ground.data }], guard := none }) (v := ?vvz38_11) rfl (by kernel_rfl) (by kernel_rfl) (by kernel_rfl) (fun _ _ _ h => h) (Or.inl ⟨by rfl, ?yyz38_11⟩) hHeld ?_
                    case vvz38_11 => exact .agg #[s17]
                    case yyz38_11 =>
                      intro W hS
                      go_simp
                    try simp only [Act.put, List.setIfInBounds_toArray, List.set_cons_zero, List.set_cons_succ]
                    refine wpAnyH_take (i := 12) (oi := { dst := some 67, op := Op.extract (Operand.tmp 55) 1, type := 34, pos := "law.go:140", after := #[{ on := 10, ground := Ground.data }, { on := 14, ground := Ground.gcOnly Departure.lateStores }], guard := none }) (v := ?vvz39_12) rfl (by kernel_rfl) (by kernel_rfl) (by kernel_rfl) (fun _ _ _ h => h) (Or.inl ⟨by rfl, ?yyz39_12⟩) hHeld ?_
                    case vvz39_12 => exact .int .i64 0
                    case yyz39_12 =>
                      intro W hS
                      go_simp
                    try simp only [Act.put, List.setIfInBounds_toArray, List.set_cons_zero, List.set_cons_succ]
                    refine wpAnyH_ready (rs := [14]) (by kernel_rfl) (by simp) (AllReadyH.cons (o := { dst := none, op := Op.store 27 (Operand.tmp 10) (Operand.tmp 66), type := 0, pos := "law.go:140", after := #[{ on := 13, ground := Ground.data }, { on := 11, ground := Ground.data }, { on := 9, ground := Ground.chain }, { on := 0, ground := Ground.phase }, { on := 1, ground := Ground.phase }, { on := 2, ground := Ground.phase }, { on := 3, ground := Ground.phase }, { on := 4, ground := Ground.phase }, { on := 5, ground := Ground.phase }, { on := 6, ground := Ground.phase }, { on := 7, ground := Ground.phase }, { on := 8, ground := Ground.phase }, { on := 9, ground := Ground.phase }, { on := 10, ground := Ground.phase }, { on := 11, ground := Ground.phase }, { on := 12, ground := Ground.textOnly Departure.lateStores }, { on := 13, ground := Ground.phase }], guard := none }) rfl (fun K hK => ?_) AllReadyH.nil)
                    have e18 := R17.cell 0
                    have f18 := R17.frozen 0
                    simp only [List.getElem?_cons_zero] at e18
                    obtain ⟨ya18, yn18, yc18, rfl⟩ : ∃ a n c, s17 = Value.slice a n c := (by obtain ⟨a, c, h⟩ := TBL.slice T17; exact ⟨a, _, c, h⟩)
                    have hz18 : w5.heap.size ≤ Y1.heap.size := hge_14
                    go_simp
                    have S18 := SZ.set S17 (hz18) (.slice ya18 yn18 yc18)
                    have R18 := R17.set 0 (.slice ya18 yn18 yc18)
                    have T18 := TBL.store (v := .slice ya18 yn18 yc18) T17 R17
                    refine hK.out _ _ S18 (fun hHeld => ?_)
                    clear hK K
                    try simp only [Act.put, List.setIfInBounds_toArray, List.set_cons_zero, List.set_cons_succ]
                    refine wpAnyH_ready (rs := [15]) (by kernel_rfl) (by simp) (AllReadyH.cons (o := { dst := some 11, op := Op.assign (Operand.tmp 67), type := 34, pos := "law.go:140", after := #[{ on := 12, ground := Ground.data }, { on := 14, ground := Ground.chain }, { on := 0, ground := Ground.phase }, { on := 1, ground := Ground.phase }, { on := 2, ground := Ground.phase }, { on := 3, ground := Ground.phase }, { on := 4, ground := Ground.phase }, { on := 5, ground := Ground.phase }, { on := 6, ground := Ground.phase }, { on := 7, ground := Ground.phase }, { on := 8, ground := Ground.phase }, { on := 9, ground := Ground.phase }, { on := 10, ground := Ground.phase }, { on := 11, ground := Ground.phase }, { on := 12, ground := Ground.phase }, { on := 13, ground := Ground.phase }, { on := 14, ground := Ground.phase }], guard := none }) rfl (fun K hK => ?_) AllReadyH.nil)
                    go_simp
                    refine hK.out _ _ S18 (fun hHeld => ?_)
                    clear hK K
                    try simp only [Act.put, List.setIfInBounds_toArray, List.set_cons_zero, List.set_cons_succ]
                    refine wpAnyH_done (by kernel_rfl) ?_ _
                    refine NoPanic.normal ?_
                    exact ⟨rfl, ((.slice (some ⟨Y0.heap.size, 0, none⟩) 0 0), (.slice (some ⟨Y0.heap.size, 0, none⟩) 0 0), (.slice (some ⟨Y0.heap.size, 0, none⟩) 0 0), .slice ya18 yn18 yc18, Y1.heap.size), rfl, R18, T18, S18⟩
                · go_simp
                  have S19 := SZ.al S0 (.cells #[.slice none 0 0] 27)
                  have hge_19 : w5.heap.size ≤ Y0.heap.size := S0.size
                  have R19 : Row (Y0.alloc (.cells #[.slice none 0 0] 27)) (Y0.heap.size) 27 [.slice none 0 0] := Row.self Y0 _ _
                  generalize hY19 : (Y0.alloc (.cells #[.slice none 0 0] 27)) = Y19 at S19 R19 ⊢
                  clear hY19
                  refine hK.out _ _ S19 (fun hHeld => ?_)
                  clear hK K
                  try simp only [Act.put, List.setIfInBounds_toArray, List.set_cons_zero, List.set_cons_succ]
                  refine wpAnyH_ready (rs := [0]) (by kernel_rfl) (by simp) (AllReadyH.cons (o := { dst := some 56, op := Op.buildSlice 25 0 #[], type := 25, pos := "law.go:140", after := #[], guard := none }) rfl (fun K hK => ?_) AllReadyH.nil)
                  go_simp
                  have S20 := SZ.al S19 (.cells #[] 30)
                  have O20 : OWN w5.heap.size (Y19.alloc (.cells #[] 30)) (.slice (some ⟨Y19.heap.size, 0, none⟩) 0 0) [] := OWN.weak (World.ownsRow_made (size := 6) Y19 #[] 0 (Nat.le_refl _) (Nat.zero_le _) rfl) S19.size
                  have R20 := R19.alloc (.cells #[] 30)
                  generalize hY20 : Y19.alloc (.cells #[] 30) = Y20 at S20 O20 R20 ⊢
                  clear hY20
                  refine hK.out _ _ S20 (fun hHeld => ?_)
                  clear hK K
                  try simp only [Act.put, List.setIfInBounds_toArray, List.set_cons_zero, List.set_cons_succ]
                  refine wpAnyH_ready (rs := [4]) (by kernel_rfl) (by simp) (AllReadyH.cons (o := { dst := some 60, op := Op.call { callee := Callee.builtin Builtin.append, args := #[Operand.tmp 56, Operand.tmp 59], argTypes := #[25, 25] }, type := 25, pos := "law.go:140", after := #[{ on := 0, ground := Ground.data }, { on := 3, ground := Ground.data }], guard := none }) rfl (fun K hK => ?_) AllReadyH.nil)
                  refine step_append_r rfl _ _ 25 25 rfl (.slice (some ⟨Y19.heap.size, 0, none⟩) 0 0) (.slice none 0 cap) (by simp [Act.eval, Act.put]) (by simp [Act.eval, Act.put]) (append_none O20 cap) ?_
                  try simp only [Act.put, List.setIfInBounds_toArray, List.set_cons_zero, List.set_cons_succ]
                  have S21 := S20
                  refine hK.out _ _ S20 (fun hHeld => ?_)
                  clear hK K
                  try simp only [Act.put, List.setIfInBounds_toArray, List.set_cons_zero, List.set_cons_succ]
                  refine wpAnyH_ready (rs := [8]) (by kernel_rfl) (by simp) (AllReadyH.cons (o := { dst := some 64, op := Op.call { callee := Callee.builtin Builtin.append, args := #[Operand.tmp 60, Operand.tmp 63], argTypes := #[25, 25] }, type := 25, pos := "law.go:140", after := #[{ on := 4, ground := Ground.data }, { on := 7, ground := Ground.data }, { on := 4, ground := Ground.chain }], guard := none }) rfl (fun K hK => ?_) AllReadyH.nil)
                  refine step_append_r rfl _ _ 25 25 rfl (.slice (some ⟨Y19.heap.size, 0, none⟩) 0 0) (.slice none 0 cap) (by simp [Act.eval, Act.put]) (by simp [Act.eval, Act.put]) (append_none O20 cap) ?_
                  try simp only [Act.put, List.setIfInBounds_toArray, List.set_cons_zero, List.set_cons_succ]
                  have S22 := S20
                  refine hK.out _ _ S20 (fun hHeld => ?_)
                  clear hK K
                  try simp only [Act.put, List.setIfInBounds_toArray, List.set_cons_zero, List.set_cons_succ]
                  refine wpAnyH_ready (rs := [9]) (by kernel_rfl) (by simp) (AllReadyH.cons (o := { dst := some 65, op := Op.call { callee := Callee.value (Operand.func 19), args := #[Operand.tmp 64], argTypes := #[25] }, type := 35, pos := "law.go:140", after := #[{ on := 8, ground := Ground.data }, { on := 8, ground := Ground.chain }], guard := none }) rfl (fun K hK => ?_) AllReadyH.nil)
                  go_simp
                  go_at_call 19
                  refine (HNP.out _ _ (HVG4.out _ S20) (OWN.tbl O20)).mono ?_
                  rintro e x23 ⟨hb23, s23, rfl, T23⟩
                  have S23 := SZ.next S20 hb23
                  have R23 := R20.below hb23 R20.lt
                  refine hK.out _ _ S23 (fun hHeld => ?_)
                  clear hK K
                  try simp only [Act.put, List.setIfInBounds_toArray, List.set_cons_zero, List.set_cons_succ]
                  refine wpAnyH_take (i := 10) (oi := { dst := some 55, op := Op.move (Operand.tmp 65), type := 35, pos := "law.go:140", after := #[{ on := 9, ground := Ground.data }], guard := none }) (v := ?vvz40_10) rfl (by kernel_rfl) (by kernel_rfl) (by kernel_rfl) (fun _ _ _ h => h) (Or.inl ⟨by rfl, ?yyz40_10⟩) hHeld ?_
                  case vvz40_10 => exact .tuple #[.agg #[s23], .int .i64 0]
                  case yyz40_10 =>
                    intro W hS
                    go_simp
                  try simp only [Act.put, List.setIfInBounds_toArray, List.set_cons_zero, List.set_cons_succ]
                  refine wpAnyH_take (i := 11) (oi := { dst := some 66, op := Op.extract (Operand.tmp 55) 0, type := 27, pos := "law.go:140", after := #[{ on := 10, ground := Ground.data }], guard := none }) (v := ?vvz41_11) rfl (by kernel_rfl) (by kernel_rfl) (by kernel_rfl) (fun _ _ _ h => h) (Or.inl ⟨by rfl, ?yyz41_11⟩) hHeld ?_
                  case vvz41_11 => exact .agg #[s23]
                  case yyz41_11 =>
                    intro W hS
                    go_simp
                  try simp only [Act.put, List.setIfInBounds_toArray, List.set_cons_zero, List.set_cons_succ]
                  refine wpAnyH_take (i := 12) (oi := { dst := some 67, op := Op.extract (Operand.tmp 55) 1, type := 34, pos := "law.go:140", after := #[{ on := 10, ground := Ground.data }, { on := 14, ground := Ground.gcOnly Departure.lateStores }], guard := none }) (v := ?vvz42_12) rfl (by kernel_rfl) (by kernel_rfl) (by kernel_rfl) (fun _ _ _ h => h) (Or.inl ⟨by rfl, ?yyz42_12⟩) hHeld ?_
                  case vvz42_12 => exact .int .i64 0
                  case yyz42_12 =>
                    intro W hS
                    go_simp
                  try simp only [Act.put, List.setIfInBounds_toArray, List.set_cons_zero, List.set_cons_succ]
                  refine wpAnyH_ready (rs := [14]) (by kernel_rfl) (by simp) (AllReadyH.cons (o := { dst := none, op := Op.store 27 (Operand.tmp 10) (Operand.tmp 66), type := 0, pos := "law.go:140", after := #[{ on := 13, ground := Ground.data }, { on := 11, ground := Ground.data }, { on := 9, ground := Ground.chain }, { on := 0, ground := Ground.phase }, { on := 1, ground := Ground.phase }, { on := 2, ground := Ground.phase }, { on := 3, ground := Ground.phase }, { on := 4, ground := Ground.phase }, { on := 5, ground := Ground.phase }, { on := 6, ground := Ground.phase }, { on := 7, ground := Ground.phase }, { on := 8, ground := Ground.phase }, { on := 9, ground := Ground.phase }, { on := 10, ground := Ground.phase }, { on := 11, ground := Ground.phase }, { on := 12, ground := Ground.textOnly Departure.lateStores }, { on := 13, ground := Ground.phase }], guard := none }) rfl (fun K hK => ?_) AllReadyH.nil)
                  have e24 := R23.cell 0
                  have f24 := R23.frozen 0
                  simp only [List.getElem?_cons_zero] at e24
                  obtain ⟨ya24, yn24, yc24, rfl⟩ : ∃ a n c, s23 = Value.slice a n c := (by obtain ⟨a, c, h⟩ := TBL.slice T23; exact ⟨a, _, c, h⟩)
                  have hz24 : w5.heap.size ≤ Y0.heap.size := hge_19
                  go_simp
                  have S24 := SZ.set S23 (hz24) (.slice ya24 yn24 yc24)
                  have R24 := R23.set 0 (.slice ya24 yn24 yc24)
                  have T24 := TBL.store (v := .slice ya24 yn24 yc24) T23 R23
                  refine hK.out _ _ S24 (fun hHeld => ?_)
                  clear hK K
                  try simp only [Act.put, List.setIfInBounds_toArray, List.set_cons_zero, List.set_cons_succ]
                  refine wpAnyH_ready (rs := [15]) (by kernel_rfl) (by simp) (AllReadyH.cons (o := { dst := some 11, op := Op.assign (Operand.tmp 67), type := 34, pos := "law.go:140", after := #[{ on := 12, ground := Ground.data }, { on := 14, ground := Ground.chain }, { on := 0, ground := Ground.phase }, { on := 1, ground := Ground.phase }, { on := 2, ground := Ground.phase }, { on := 3, ground := Ground.phase }, { on := 4, ground := Ground.phase }, { on := 5, ground := Ground.phase }, { on := 6, ground := Ground.phase }, { on := 7, ground := Ground.phase }, { on := 8, ground := Ground.phase }, { on := 9, ground := Ground.phase }, { on := 10, ground := Ground.phase }, { on := 11, ground := Ground.phase }, { on := 12, ground := Ground.phase }, { on := 13, ground := Ground.phase }, { on := 14, ground := Ground.phase }], guard := none }) rfl (fun K hK => ?_) AllReadyH.nil)
                  go_simp
                  refine hK.out _ _ S24 (fun hHeld => ?_)
                  clear hK K
                  try simp only [Act.put, List.setIfInBounds_toArray, List.set_cons_zero, List.set_cons_succ]
                  refine wpAnyH_done (by kernel_rfl) ?_ _
                  refine NoPanic.normal ?_
                  exact ⟨rfl, ((.slice (some ⟨Y19.heap.size, 0, none⟩) 0 0), (.slice (some ⟨Y19.heap.size, 0, none⟩) 0 0), (.slice (some ⟨Y19.heap.size, 0, none⟩) 0 0), .slice ya24 yn24 yc24, Y0.heap.size), rfl, R24, T24, S24⟩
              rintro ⟨z0, z1, z2, s5, gu⟩ w6 ⟨hR6, hT6, hS6⟩
              dsimp only at hR6 hT6 hS6
              have HU := Lib.hid (And.intro hR6 hT6)
              have HV := Lib.hid (And.intro (HR5.out.below hS6 HR5.out.lt) (HT5.out.below hS6))
              have HBS := Lib.hid hb
              have HS6 := Lib.hid (show Below b w w6 from B5.out.trans (Below.mono hS6 hbz5))
              have hbz6 : b ≤ w6.heap.size := Nat.le_trans hbz5 (SZ.size hS6)
              clear hR6 hT6 hS6
              simp only [Act.put, List.setIfInBounds_toArray, List.set_cons_zero, List.set_cons_succ]
              have ht0 : t = [] := by have h := HTN.out; injection h with h; exact h.symm
              subst ht0
              go_wp2_with fail
              go_loopw [70] (fun i wr => i = .int .i64 0 ∧ Hid (SZ w6 wr)) (fun i _ => 0)
              case atStart => exact ⟨rfl, Lib.hid (Below.refl _ _)⟩
              case round =>
                obtain ⟨rfl, HW⟩ := hrel
                have c7 := (HV.out.1.below HW.out HV.out.1.lt).cell 0
                have c8 := (HU.out.1.below HW.out HU.out.1.lt).cell 0
                simp only [List.getElem?_cons_zero] at c7 c8
                have hS := Lib.hid (fun W h1 h2 => Same_any [] [] (by decide) (.slice ta tn tc) s5 W h1 h2)
                rw [decide_eq_true rfl] at hS
                have hLn := Lib.hid (fun W h => Len_any [] (.slice ta tn tc) W h)
                obtain ⟨ua, un, uc, rfl⟩ : ∃ a n c, s5 = Value.slice a n c := (by obtain ⟨a, c, h⟩ := TBL.slice HU.out.2; exact ⟨a, _, c, h⟩)
                go_wp2_with fail
                refine (hS.out _ (HV.out.2.below HW.out) (HU.out.2.below HW.out)).mono ?_
                rintro e w8 ⟨rfl, hb⟩
                have S8 := Lib.hid (HW.out.next hb)
                have c9 := (HV.out.1.below S8.out HV.out.1.lt).cell 0
                simp only [List.getElem?_cons_zero] at c9
                clear hb c7 c8
                go_wp2_with fail
                refine (hLn.out _ (HV.out.2.below S8.out)).mono ?_
                rintro e w9 ⟨rfl, hb⟩
                have S9 := Lib.hid (S8.out.next hb)
                clear hb c9
                go_wp2
                go_ret
                exact ⟨rfl, by rw [HBS.out]; exact HS6.out.trans (Below.mono S9.out hbz6)⟩
            · go_wp2_with fail
              try rw [HW5.out]
              refine wp_join (ι := Value × Value × Value × Value × Nat) (fun a9 z => (((((((((((((((a9.put (some 57) (.slice (some ⟨g, off, sp⟩) 0 cap)).put (some 58) (.int .i64 0)).put (some 59) (.slice (some ⟨g, off, sp⟩) 0 cap)).put (some 61) (.slice (some ⟨g, off, sp⟩) 0 cap)).put (some 62) (.int .i64 0)).put (some 63) (.slice (some ⟨g, off, sp⟩) 0 cap)).put (some 56) (z.1)).put (some 60) (z.2.1)).put (some 64) (z.2.2.1)).put (some 65) ((.tuple #[.agg #[z.2.2.2.1], .int .i64 0]))).put (some 55) ((.tuple #[.agg #[z.2.2.2.1], .int .i64 0]))).put (some 66) ((.agg #[z.2.2.2.1]))).put (some 67) (.int .i64 0)).put (some 10) (.pointer (some ⟨z.2.2.2.2, 0, none⟩))).put (some 11) (.int .i64 0)))
                (fun z w' => Row w' z.2.2.2.2 27 [z.2.2.2.1] ∧ TBL w' z.2.2.2.1 t ∧ SZ w5 w') ?_ ?_
              · refine wp_region_noPanic ?_
                refine wp_region_held_drew (S := fun W => SZ w5 W) (by kernel_rfl) (SZ.dr w5) (fun hHeld => ?_)
                have S0 := SZ.dr w5
                generalize hY0 : w5.drew = Y0 at S0 hHeld ⊢
                clear hY0
                refine wpAnyH_take (i := 1) (oi := { dst := some 57, op := Op.move (Operand.tmp 0), type := 25, pos := "law.go:140", after := #[], guard := none }) (v := ?vvz43_1) rfl (by kernel_rfl) (by kernel_rfl) (by kernel_rfl) (fun _ _ _ h => h) (Or.inl ⟨by rfl, ?yyz43_1⟩) hHeld ?_
                case vvz43_1 => exact .slice (some ⟨g, off, sp⟩) 0 cap
                case yyz43_1 =>
                  intro W hS
                  go_simp
                try simp only [Act.put, List.setIfInBounds_toArray, List.set_cons_zero, List.set_cons_succ]
                refine wpAnyH_take (i := 2) (oi := { dst := some 58, op := Op.move (Operand.tmp 9), type := 3, pos := "law.go:140", after := #[], guard := none }) (v := ?vvz44_2) rfl (by kernel_rfl) (by kernel_rfl) (by kernel_rfl) (fun _ _ _ h => h) (Or.inl ⟨by rfl, ?yyz44_2⟩) hHeld ?_
                case vvz44_2 => exact .int .i64 0
                case yyz44_2 =>
                  intro W hS
                  go_simp
                try simp only [Act.put, List.setIfInBounds_toArray, List.set_cons_zero, List.set_cons_succ]
                refine wpAnyH_take (i := 3) (oi := { dst := some 59, op := Op.slice 25 (Operand.tmp 57) (some (Operand.tmp 58)) none none, type := 25, pos := "law.go:140", after := #[{ on := 1, ground := Ground.data }, { on := 2, ground := Ground.data }], guard := none }) (v := ?vvz45_3) rfl (by kernel_rfl) (by kernel_rfl) (by kernel_rfl) (fun _ _ _ h => h) (Or.inl ⟨by rfl, ?yyz45_3⟩) hHeld ?_
                case vvz45_3 => exact .slice (some ⟨g, off, sp⟩) 0 cap
                case yyz45_3 =>
                  intro W hS
                  go_simp
                try simp only [Act.put, List.setIfInBounds_toArray, List.set_cons_zero, List.set_cons_succ]
                refine wpAnyH_take (i := 5) (oi := { dst := some 61, op := Op.move (Operand.tmp 0), type := 25, pos := "law.go:140", after := #[], guard := none }) (v := ?vvz46_5) rfl (by kernel_rfl) (by kernel_rfl) (by kernel_rfl) (fun _ _ _ h => h) (Or.inl ⟨by rfl, ?yyz46_5⟩) hHeld ?_
                case vvz46_5 => exact .slice (some ⟨g, off, sp⟩) 0 cap
                case yyz46_5 =>
                  intro W hS
                  go_simp
                try simp only [Act.put, List.setIfInBounds_toArray, List.set_cons_zero, List.set_cons_succ]
                refine wpAnyH_take (i := 6) (oi := { dst := some 62, op := Op.move (Operand.tmp 9), type := 3, pos := "law.go:140", after := #[], guard := none }) (v := ?vvz47_6) rfl (by kernel_rfl) (by kernel_rfl) (by kernel_rfl) (fun _ _ _ h => h) (Or.inl ⟨by rfl, ?yyz47_6⟩) hHeld ?_
                case vvz47_6 => exact .int .i64 0
                case yyz47_6 =>
                  intro W hS
                  go_simp
                try simp only [Act.put, List.setIfInBounds_toArray, List.set_cons_zero, List.set_cons_succ]
                refine wpAnyH_take (i := 7) (oi := { dst := some 63, op := Op.slice 25 (Operand.tmp 61) none (some (Operand.tmp 62)) none, type := 25, pos := "law.go:140", after := #[{ on := 5, ground := Ground.data }, { on := 6, ground := Ground.data }], guard := none }) (v := ?vvz48_7) rfl (by kernel_rfl) (by kernel_rfl) (by kernel_rfl) (fun _ _ _ h => h) (Or.inl ⟨by rfl, ?yyz48_7⟩) hHeld ?_
                case vvz48_7 => exact .slice (some ⟨g, off, sp⟩) 0 cap
                case yyz48_7 =>
                  intro W hS
                  go_simp
                try simp only [Act.put, List.setIfInBounds_toArray, List.set_cons_zero, List.set_cons_succ]
                refine wpAnyH_ready (rs := [0, 13]) (by kernel_rfl) (by simp) (AllReadyH.cons (o := { dst := some 56, op := Op.buildSlice 25 0 #[], type := 25, pos := "law.go:140", after := #[], guard := none }) rfl (fun K hK => ?_) (AllReadyH.cons (o := { dst := some 10, op := Op.alloc 27, type := 0, pos := "law.go:140", after := #[], guard := none }) rfl (fun K hK => ?_) AllReadyH.nil))
                · go_simp
                  have S1 := SZ.al S0 (.cells #[] 30)
                  have O1 : OWN w5.heap.size (Y0.alloc (.cells #[] 30)) (.slice (some ⟨Y0.heap.size, 0, none⟩) 0 0) [] := OWN.weak (World.ownsRow_made (size := 6) Y0 #[] 0 (Nat.le_refl _) (Nat.zero_le _) rfl) S0.size
                  generalize hY1 : Y0.alloc (.cells #[] 30) = Y1 at S1 O1 ⊢
                  clear hY1
                  refine hK.out _ _ S1 (fun hHeld => ?_)
                  clear hK K
                  try simp only [Act.put, List.setIfInBounds_toArray, List.set_cons_zero, List.set_cons_succ]
                  refine wpAnyH_ready (rs := [4, 13]) (by kernel_rfl) (by simp) (AllReadyH.cons (o := { dst := some 60, op := Op.call { callee := Callee.builtin Builtin.append, args := #[Operand.tmp 56, Operand.tmp 59], argTypes := #[25, 25] }, type := 25, pos := "law.go:140", after := #[{ on := 0, ground := Ground.data }, { on := 3, ground := Ground.data }], guard := none }) rfl (fun K hK => ?_) (AllReadyH.cons (o := { dst := some 10, op := Op.alloc 27, type := 0, pos := "law.go:140", after := #[], guard := none }) rfl (fun K hK => ?_) AllReadyH.nil))
                  · obtain ⟨v2, x2, hr2, O2, hb2⟩ := append_rs O1 S1.size ⟨g, off, sp⟩ 0 cap [] rfl (fun j u h => by simp [cellsL] at h) (by simp)
                    have S2 := SZ.grown S1 hb2.1
                    refine step_append_r rfl _ _ 25 25 rfl (.slice (some ⟨Y0.heap.size, 0, none⟩) 0 0) (.slice (some ⟨g, off, sp⟩) 0 cap) (by simp [Act.eval, Act.put]) (by simp [Act.eval, Act.put]) hr2 ?_
                    try simp only [Act.put, List.setIfInBounds_toArray, List.set_cons_zero, List.set_cons_succ]
                    refine hK.out _ _ S2 (fun hHeld => ?_)
                    clear hK K
                    try simp only [Act.put, List.setIfInBounds_toArray, List.set_cons_zero, List.set_cons_succ]
                    refine wpAnyH_ready (rs := [8, 13]) (by kernel_rfl) (by simp) (AllReadyH.cons (o := { dst := some 64, op := Op.call { callee := Callee.builtin Builtin.append, args := #[Operand.tmp 60, Operand.tmp 63], argTypes := #[25, 25] }, type := 25, pos := "law.go:140", after := #[{ on := 4, ground := Ground.data }, { on := 7, ground := Ground.data }, { on := 4, ground := Ground.chain }], guard := none }) rfl (fun K hK => ?_) (AllReadyH.cons (o := { dst := some 10, op := Op.alloc 27, type := 0, pos := "law.go:140", after := #[], guard := none }) rfl (fun K hK => ?_) AllReadyH.nil))
                    · obtain ⟨v3, x3, hr3, O3, hb3⟩ := append_rs O2 S2.size ⟨g, off, sp⟩ 0 cap [] rfl (fun j u h => by simp [cellsL] at h) (by simp)
                      have S3 := SZ.grown S2 hb3.1
                      refine step_append_r rfl _ _ 25 25 rfl v2 (.slice (some ⟨g, off, sp⟩) 0 cap) (by simp [Act.eval, Act.put]) (by simp [Act.eval, Act.put]) hr3 ?_
                      try simp only [Act.put, List.setIfInBounds_toArray, List.set_cons_zero, List.set_cons_succ]
                      refine hK.out _ _ S3 (fun hHeld => ?_)
                      clear hK K
                      try simp only [Act.put, List.setIfInBounds_toArray, List.set_cons_zero, List.set_cons_succ]
                      refine wpAnyH_ready (rs := [9, 13]) (by kernel_rfl) (by simp) (AllReadyH.cons (o := { dst := some 65, op := Op.call { callee := Callee.value (Operand.func 19), args := #[Operand.tmp 64], argTypes := #[25] }, type := 35, pos := "law.go:140", after := #[{ on := 8, ground := Ground.data }, { on := 8, ground := Ground.chain }], guard := none }) rfl (fun K hK => ?_) (AllReadyH.cons (o := { dst := some 10, op := Op.alloc 27, type := 0, pos := "law.go:140", after := #[], guard := none }) rfl (fun K hK => ?_) AllReadyH.nil))
                      · go_simp
                        go_at_call 19
                        refine (HNP.out _ _ (HVG4.out _ S3) (OWN.tbl O3)).mono ?_
                        rintro e x4 ⟨hb4, s4, rfl, T4⟩
                        have S4 := SZ.next S3 hb4
                        refine hK.out _ _ S4 (fun hHeld => ?_)
                        clear hK K
                        try simp only [Act.put, List.setIfInBounds_toArray, List.set_cons_zero, List.set_cons_succ]
                        refine wpAnyH_take (i := 10) (oi := { dst := some 55, op := Op.move (Operand.tmp 65), type := 35, pos := "law.go:140", after := #[{ on := 9, ground := Ground.data }], guard := none }) (v := ?vvz49_10) rfl (by kernel_rfl) (by kernel_rfl) (by kernel_rfl) (fun _ _ _ h => h) (Or.inl ⟨by rfl, ?yyz49_10⟩) hHeld ?_
                        case vvz49_10 => exact .tuple #[.agg #[s4], .int .i64 0]
                        case yyz49_10 =>
                          intro W hS
                          go_simp
                        try simp only [Act.put, List.setIfInBounds_toArray, List.set_cons_zero, List.set_cons_succ]
                        refine wpAnyH_take (i := 11) (oi := { dst := some 66, op := Op.extract (Operand.tmp 55) 0, type := 27, pos := "law.go:140", after := #[{ on := 10, ground := Ground.data }], guard := none }) (v := ?vvz50_11) rfl (by kernel_rfl) (by kernel_rfl) (by kernel_rfl) (fun _ _ _ h => h) (Or.inl ⟨by rfl, ?yyz50_11⟩) hHeld ?_
                        case vvz50_11 => exact .agg #[s4]
                        case yyz50_11 =>
                          intro W hS
                          go_simp
                        try simp only [Act.put, List.setIfInBounds_toArray, List.set_cons_zero, List.set_cons_succ]
                        refine wpAnyH_take (i := 12) (oi := { dst := some 67, op := Op.extract (Operand.tmp 55) 1, type := 34, pos := "law.go:140", after := #[{ on := 10, ground := Ground.data }, { on := 14, ground := Ground.gcOnly Departure.lateStores }], guard := none }) (v := ?vvz51_12) rfl (by kernel_rfl) (by kernel_rfl) (by kernel_rfl) (fun _ _ _ h => h) (Or.inl ⟨by rfl, ?yyz51_12⟩) hHeld ?_
                        case vvz51_12 => exact .int .i64 0
                        case yyz51_12 =>
                          intro W hS
                          go_simp
                        try simp only [Act.put, List.setIfInBounds_toArray, List.set_cons_zero, List.set_cons_succ]
                        refine wpAnyH_ready (rs := [13]) (by kernel_rfl) (by simp) (AllReadyH.cons (o := { dst := some 10, op := Op.alloc 27, type := 0, pos := "law.go:140", after := #[], guard := none }) rfl (fun K hK => ?_) AllReadyH.nil)
                        go_simp
                        have S5 := SZ.al S4 (.cells #[.slice none 0 0] 27)
                        have hge_5 : w5.heap.size ≤ x4.heap.size := S4.size
                        have R5 : Row (x4.alloc (.cells #[.slice none 0 0] 27)) (x4.heap.size) 27 [.slice none 0 0] := Row.self x4 _ _
                        have T5 := TBL.below T4 ((Below.refl _ _).alloc (Nat.le_refl _) (.cells #[.slice none 0 0] 27))
                        generalize hY5 : x4.alloc (.cells #[.slice none 0 0] 27) = Y5 at S5 R5 T5 ⊢
                        clear hY5
                        refine hK.out _ _ S5 (fun hHeld => ?_)
                        clear hK K
                        try simp only [Act.put, List.setIfInBounds_toArray, List.set_cons_zero, List.set_cons_succ]
                        refine wpAnyH_ready (rs := [14]) (by kernel_rfl) (by simp) (AllReadyH.cons (o := { dst := none, op := Op.store 27 (Operand.tmp 10) (Operand.tmp 66), type := 0, pos := "law.go:140", after := #[{ on := 13, ground := Ground.data }, { on := 11, ground := Ground.data }, { on := 9, ground := Ground.chain }, { on := 0, ground := Ground.phase }, { on := 1, ground := Ground.phase }, { on := 2, ground := Ground.phase }, { on := 3, ground := Ground.phase }, { on := 4, ground := Ground.phase }, { on := 5, ground := Ground.phase }, { on := 6, ground := Ground.phase }, { on := 7, ground := Ground.phase }, { on := 8, ground := Ground.phase }, { on := 9, ground := Ground.phase }, { on := 10, ground := Ground.phase }, { on := 11, ground := Ground.phase }, { on := 12, ground := Ground.textOnly Departure.lateStores }, { on := 13, ground := Ground.phase }], guard := none }) rfl (fun K hK => ?_) AllReadyH.nil)
                        have e6 := R5.cell 0
                        have f6 := R5.frozen 0
                        simp only [List.getElem?_cons_zero] at e6
                        obtain ⟨ya6, yn6, yc6, rfl⟩ : ∃ a n c, s4 = Value.slice a n c := (by obtain ⟨a, c, h⟩ := TBL.slice T5; exact ⟨a, _, c, h⟩)
                        have hz6 : w5.heap.size ≤ x4.heap.size := hge_5
                        go_simp
                        have S6 := SZ.set S5 (hz6) (.slice ya6 yn6 yc6)
                        have R6 := R5.set 0 (.slice ya6 yn6 yc6)
                        have T6 := TBL.store (v := .slice ya6 yn6 yc6) T5 R5
                        refine hK.out _ _ S6 (fun hHeld => ?_)
                        clear hK K
                        try simp only [Act.put, List.setIfInBounds_toArray, List.set_cons_zero, List.set_cons_succ]
                        refine wpAnyH_ready (rs := [15]) (by kernel_rfl) (by simp) (AllReadyH.cons (o := { dst := some 11, op := Op.assign (Operand.tmp 67), type := 34, pos := "law.go:140", after := #[{ on := 12, ground := Ground.data }, { on := 14, ground := Ground.chain }, { on := 0, ground := Ground.phase }, { on := 1, ground := Ground.phase }, { on := 2, ground := Ground.phase }, { on := 3, ground := Ground.phase }, { on := 4, ground := Ground.phase }, { on := 5, ground := Ground.phase }, { on := 6, ground := Ground.phase }, { on := 7, ground := Ground.phase }, { on := 8, ground := Ground.phase }, { on := 9, ground := Ground.phase }, { on := 10, ground := Ground.phase }, { on := 11, ground := Ground.phase }, { on := 12, ground := Ground.phase }, { on := 13, ground := Ground.phase }, { on := 14, ground := Ground.phase }], guard := none }) rfl (fun K hK => ?_) AllReadyH.nil)
                        go_simp
                        refine hK.out _ _ S6 (fun hHeld => ?_)
                        clear hK K
                        try simp only [Act.put, List.setIfInBounds_toArray, List.set_cons_zero, List.set_cons_succ]
                        refine wpAnyH_done (by kernel_rfl) ?_ _
                        refine NoPanic.normal ?_
                        exact ⟨rfl, ((.slice (some ⟨Y0.heap.size, 0, none⟩) 0 0), v2, v3, .slice ya6 yn6 yc6, x4.heap.size), rfl, R6, T6, S6⟩
                      · go_simp
                        have S7 := SZ.al S3 (.cells #[.slice none 0 0] 27)
                        have hge_7 : w5.heap.size ≤ x3.heap.size := S3.size
                        have R7 : Row (x3.alloc (.cells #[.slice none 0 0] 27)) (x3.heap.size) 27 [.slice none 0 0] := Row.self x3 _ _
                        have O7 := OWN.alloc O3 (.cells #[.slice none 0 0] 27)
                        generalize hY7 : (x3.alloc (.cells #[.slice none 0 0] 27)) = Y7 at S7 R7 O7 ⊢
                        clear hY7
                        refine hK.out _ _ S7 (fun hHeld => ?_)
                        clear hK K
                        try simp only [Act.put, List.setIfInBounds_toArray, List.set_cons_zero, List.set_cons_succ]
                        refine wpAnyH_ready (rs := [9]) (by kernel_rfl) (by simp) (AllReadyH.cons (o := { dst := some 65, op := Op.call { callee := Callee.value (Operand.func 19), args := #[Operand.tmp 64], argTypes := #[25] }, type := 35, pos := "law.go:140", after := #[{ on := 8, ground := Ground.data }, { on := 8, ground := Ground.chain }], guard := none }) rfl (fun K hK => ?_) AllReadyH.nil)
                        go_simp
                        go_at_call 19
                        refine (HNP.out _ _ (HVG4.out _ S7) (OWN.tbl O7)).mono ?_
                        rintro e x8 ⟨hb8, s8, rfl, T8⟩
                        have S8 := SZ.next S7 hb8
                        have R8 := R7.below hb8 R7.lt
                        refine hK.out _ _ S8 (fun hHeld => ?_)
                        clear hK K
                        try simp only [Act.put, List.setIfInBounds_toArray, List.set_cons_zero, List.set_cons_succ]
                        refine wpAnyH_take (i := 10) (oi := { dst := some 55, op := Op.move (Operand.tmp 65), type := 35, pos := "law.go:140", after := #[{ on := 9, ground := Ground.data }], guard := none }) (v := ?vvz52_10) rfl (by kernel_rfl) (by kernel_rfl) (by kernel_rfl) (fun _ _ _ h => h) (Or.inl ⟨by rfl, ?yyz52_10⟩) hHeld ?_
                        case vvz52_10 => exact .tuple #[.agg #[s8], .int .i64 0]
                        case yyz52_10 =>
                          intro W hS
                          go_simp
                        try simp only [Act.put, List.setIfInBounds_toArray, List.set_cons_zero, List.set_cons_succ]
                        refine wpAnyH_take (i := 11) (oi := { dst := some 66, op := Op.extract (Operand.tmp 55) 0, type := 27, pos := "law.go:140", after := #[{ on := 10, ground := Ground.data }], guard := none }) (v := ?vvz53_11) rfl (by kernel_rfl) (by kernel_rfl) (by kernel_rfl) (fun _ _ _ h => h) (Or.inl ⟨by rfl, ?yyz53_11⟩) hHeld ?_
                        case vvz53_11 => exact .agg #[s8]
                        case yyz53_11 =>
                          intro W hS
                          go_simp
                        try simp only [Act.put, List.setIfInBounds_toArray, List.set_cons_zero, List.set_cons_succ]
                        refine wpAnyH_take (i := 12) (oi := { dst := some 67, op := Op.extract (Operand.tmp 55) 1, type := 34, pos := "law.go:140", after := #[{ on := 10, ground := Ground.data }, { on := 14, ground := Ground.gcOnly Departure.lateStores }], guard := none }) (v := ?vvz54_12) rfl (by kernel_rfl) (by kernel_rfl) (by kernel_rfl) (fun _ _ _ h => h) (Or.inl ⟨by rfl, ?yyz54_12⟩) hHeld ?_
                        case vvz54_12 => exact .int .i64 0
                        case yyz54_12 =>
                          intro W hS
                          go_simp
                        try simp only [Act.put, List.setIfInBounds_toArray, List.set_cons_zero, List.set_cons_succ]
                        refine wpAnyH_ready (rs := [14]) (by kernel_rfl) (by simp) (AllReadyH.cons (o := { dst := none, op := Op.store 27 (Operand.tmp 10) (Operand.tmp 66), type := 0, pos := "law.go:140", after := #[{ on := 13, ground := Ground.data }, { on := 11, ground := Ground.data }, { on := 9, ground := Ground.chain }, { on := 0, ground := Ground.phase }, { on := 1, ground := Ground.phase }, { on := 2, ground := Ground.phase }, { on := 3, ground := Ground.phase }, { on := 4, ground := Ground.phase }, { on := 5, ground := Ground.phase }, { on := 6, ground := Ground.phase }, { on := 7, ground := Ground.phase }, { on := 8, ground := Ground.phase }, { on := 9, ground := Ground.phase }, { on := 10, ground := Ground.phase }, { on := 11, ground := Ground.phase }, { on := 12, ground := Ground.textOnly Departure.lateStores }, { on := 13, ground := Ground.phase }], guard := none }) rfl (fun K hK => ?_) AllReadyH.nil)
                        have e9 := R8.cell 0
                        have f9 := R8.frozen 0
                        simp only [List.getElem?_cons_zero] at e9
                        obtain ⟨ya9, yn9, yc9, rfl⟩ : ∃ a n c, s8 = Value.slice a n c := (by obtain ⟨a, c, h⟩ := TBL.slice T8; exact ⟨a, _, c, h⟩)
                        have hz9 : w5.heap.size ≤ x3.heap.size := hge_7
                        go_simp
                        have S9 := SZ.set S8 (hz9) (.slice ya9 yn9 yc9)
                        have R9 := R8.set 0 (.slice ya9 yn9 yc9)
                        have T9 := TBL.store (v := .slice ya9 yn9 yc9) T8 R8
                        refine hK.out _ _ S9 (fun hHeld => ?_)
                        clear hK K
                        try simp only [Act.put, List.setIfInBounds_toArray, List.set_cons_zero, List.set_cons_succ]
                        refine wpAnyH_ready (rs := [15]) (by kernel_rfl) (by simp) (AllReadyH.cons (o := { dst := some 11, op := Op.assign (Operand.tmp 67), type := 34, pos := "law.go:140", after := #[{ on := 12, ground := Ground.data }, { on := 14, ground := Ground.chain }, { on := 0, ground := Ground.phase }, { on := 1, ground := Ground.phase }, { on := 2, ground := Ground.phase }, { on := 3, ground := Ground.phase }, { on := 4, ground := Ground.phase }, { on := 5, ground := Ground.phase }, { on := 6, ground := Ground.phase }, { on := 7, ground := Ground.phase }, { on := 8, ground := Ground.phase }, { on := 9, ground := Ground.phase }, { on := 10, ground := Ground.phase }, { on := 11, ground := Ground.phase }, { on := 12, ground := Ground.phase }, { on := 13, ground := Ground.phase }, { on := 14, ground := Ground.phase }], guard := none }) rfl (fun K hK => ?_) AllReadyH.nil)
                        go_simp
                        refine hK.out _ _ S9 (fun hHeld => ?_)
                        clear hK K
                        try simp only [Act.put, List.setIfInBounds_toArray, List.set_cons_zero, List.set_cons_succ]
                        refine wpAnyH_done (by kernel_rfl) ?_ _
                        refine NoPanic.normal ?_
                        exact ⟨rfl, ((.slice (some ⟨Y0.heap.size, 0, none⟩) 0 0), v2, v3, .slice ya9 yn9 yc9, x3.heap.size), rfl, R9, T9, S9⟩
                    · go_simp
                      have S10 := SZ.al S2 (.cells #[.slice none 0 0] 27)
                      have hge_10 : w5.heap.size ≤ x2.heap.size := S2.size
                      have R10 : Row (x2.alloc (.cells #[.slice none 0 0] 27)) (x2.heap.size) 27 [.slice none 0 0] := Row.self x2 _ _
                      have O10 := OWN.alloc O2 (.cells #[.slice none 0 0] 27)
                      generalize hY10 : (x2.alloc (.cells #[.slice none 0 0] 27)) = Y10 at S10 R10 O10 ⊢
                      clear hY10
                      refine hK.out _ _ S10 (fun hHeld => ?_)
                      clear hK K
                      try simp only [Act.put, List.setIfInBounds_toArray, List.set_cons_zero, List.set_cons_succ]
                      refine wpAnyH_ready (rs := [8]) (by kernel_rfl) (by simp) (AllReadyH.cons (o := { dst := some 64, op := Op.call { callee := Callee.builtin Builtin.append, args := #[Operand.tmp 60, Operand.tmp 63], argTypes := #[25, 25] }, type := 25, pos := "law.go:140", after := #[{ on := 4, ground := Ground.data }, { on := 7, ground := Ground.data }, { on := 4, ground := Ground.chain }], guard := none }) rfl (fun K hK => ?_) AllReadyH.nil)
                      obtain ⟨v11, x11, hr11, O11, hb11⟩ := append_rs O10 S10.size ⟨g, off, sp⟩ 0 cap [] rfl (fun j u h => by simp [cellsL] at h) (by simp)
                      have R11 : Row x11 x2.heap.size 27 [.slice none 0 0] := (hb11.2 _ (OWN.ne_row O10 R10) R10.lt).trans R10
                      have S11 := SZ.grown S10 hb11.1
                      refine step_append_r rfl _ _ 25 25 rfl v2 (.slice (some ⟨g, off, sp⟩) 0 cap) (by simp [Act.eval, Act.put]) (by simp [Act.eval, Act.put]) hr11 ?_
                      try simp only [Act.put, List.setIfInBounds_toArray, List.set_cons_zero, List.set_cons_succ]
                      refine hK.out _ _ S11 (fun hHeld => ?_)
                      clear hK K
                      try simp only [Act.put, List.setIfInBounds_toArray, List.set_cons_zero, List.set_cons_succ]
                      refine wpAnyH_ready (rs := [9]) (by kernel_rfl) (by simp) (AllReadyH.cons (o := { dst := some 65, op := Op.call { callee := Callee.value (Operand.func 19), args := #[Operand.tmp 64], argTypes := #[25] }, type := 35, pos := "law.go:140", after := #[{ on := 8, ground := Ground.data }, { on := 8, ground := Ground.chain }], guard := none }) rfl (fun K hK => ?_) AllReadyH.nil)
                      go_simp
                      go_at_call 19
                      refine (HNP.out _ _ (HVG4.out _ S11) (OWN.tbl O11)).mono ?_
                      rintro e x12 ⟨hb12, s12, rfl, T12⟩
                      have S12 := SZ.next S11 hb12
                      have R12 := R11.below hb12 R11.lt
                      refine hK.out _ _ S12 (fun hHeld => ?_)
                      clear hK K
                      try simp only [Act.put, List.setIfInBounds_toArray, List.set_cons_zero, List.set_cons_succ]
                      refine wpAnyH_take (i := 10) (oi := { dst := some 55, op := Op.move (Operand.tmp 65), type := 35, pos := "law.go:140", after := #[{ on := 9, ground := Ground.data }], guard := none }) (v := ?vvz55_10) rfl (by kernel_rfl) (by kernel_rfl) (by kernel_rfl) (fun _ _ _ h => h) (Or.inl ⟨by rfl, ?yyz55_10⟩) hHeld ?_
                      case vvz55_10 => exact .tuple #[.agg #[s12], .int .i64 0]
                      case yyz55_10 =>
                        intro W hS
                        go_simp
                      try simp only [Act.put, List.setIfInBounds_toArray, List.set_cons_zero, List.set_cons_succ]
                      refine wpAnyH_take (i := 11) (oi := { dst := some 66, op := Op.extract (Operand.tmp 55) 0, type := 27, pos := "law.go:140", after := #[{ on := 10, ground := Ground.data }], guard := none }) (v := ?vvz56_11) rfl (by kernel_rfl) (by kernel_rfl) (by kernel_rfl) (fun _ _ _ h => h) (Or.inl ⟨by rfl, ?yyz56_11⟩) hHeld ?_
                      case vvz56_11 => exact .agg #[s12]
                      case yyz56_11 =>
                        intro W hS
                        go_simp
                      try simp only [Act.put, List.setIfInBounds_toArray, List.set_cons_zero, List.set_cons_succ]
                      refine wpAnyH_take (i := 12) (oi := { dst := some 67, op := Op.extract (Operand.tmp 55) 1, type := 34, pos := "law.go:140", after := #[{ on := 10, ground := Ground.data }, { on := 14, ground := Ground.gcOnly Departure.lateStores }], guard := none }) (v := ?vvz57_12) rfl (by kernel_rfl) (by kernel_rfl) (by kernel_rfl) (fun _ _ _ h => h) (Or.inl ⟨by rfl, ?yyz57_12⟩) hHeld ?_
                      case vvz57_12 => exact .int .i64 0
                      case yyz57_12 =>
                        intro W hS
                        go_simp
                      try simp only [Act.put, List.setIfInBounds_toArray, List.set_cons_zero, List.set_cons_succ]
                      refine wpAnyH_ready (rs := [14]) (by kernel_rfl) (by simp) (AllReadyH.cons (o := { dst := none, op := Op.store 27 (Operand.tmp 10) (Operand.tmp 66), type := 0, pos := "law.go:140", after := #[{ on := 13, ground := Ground.data }, { on := 11, ground := Ground.data }, { on := 9, ground := Ground.chain }, { on := 0, ground := Ground.phase }, { on := 1, ground := Ground.phase }, { on := 2, ground := Ground.phase }, { on := 3, ground := Ground.phase }, { on := 4, ground := Ground.phase }, { on := 5, ground := Ground.phase }, { on := 6, ground := Ground.phase }, { on := 7, ground := Ground.phase }, { on := 8, ground := Ground.phase }, { on := 9, ground := Ground.phase }, { on := 10, ground := Ground.phase }, { on := 11, ground := Ground.phase }, { on := 12, ground := Ground.textOnly Departure.lateStores }, { on := 13, ground := Ground.phase }], guard := none }) rfl (fun K hK => ?_) AllReadyH.nil)
                      have e13 := R12.cell 0
                      have f13 := R12.frozen 0
                      simp only [List.getElem?_cons_zero] at e13
                      obtain ⟨ya13, yn13, yc13, rfl⟩ : ∃ a n c, s12 = Value.slice a n c := (by obtain ⟨a, c, h⟩ := TBL.slice T12; exact ⟨a, _, c, h⟩)
                      have hz13 : w5.heap.size ≤ x2.heap.size := hge_10
                      go_simp
                      have S13 := SZ.set S12 (hz13) (.slice ya13 yn13 yc13)
                      have R13 := R12.set 0 (.slice ya13 yn13 yc13)
                      have T13 := TBL.store (v := .slice ya13 yn13 yc13) T12 R12
                      refine hK.out _ _ S13 (fun hHeld => ?_)
                      clear hK K
                      try simp only [Act.put, List.setIfInBounds_toArray, List.set_cons_zero, List.set_cons_succ]
                      refine wpAnyH_ready (rs := [15]) (by kernel_rfl) (by simp) (AllReadyH.cons (o := { dst := some 11, op := Op.assign (Operand.tmp 67), type := 34, pos := "law.go:140", after := #[{ on := 12, ground := Ground.data }, { on := 14, ground := Ground.chain }, { on := 0, ground := Ground.phase }, { on := 1, ground := Ground.phase }, { on := 2, ground := Ground.phase }, { on := 3, ground := Ground.phase }, { on := 4, ground := Ground.phase }, { on := 5, ground := Ground.phase }, { on := 6, ground := Ground.phase }, { on := 7, ground := Ground.phase }, { on := 8, ground := Ground.phase }, { on := 9, ground := Ground.phase }, { on := 10, ground := Ground.phase }, { on := 11, ground := Ground.phase }, { on := 12, ground := Ground.phase }, { on := 13, ground := Ground.phase }, { on := 14, ground := Ground.phase }], guard := none }) rfl (fun K hK => ?_) AllReadyH.nil)
                      go_simp
                      refine hK.out _ _ S13 (fun hHeld => ?_)
                      clear hK K
                      try simp only [Act.put, List.setIfInBounds_toArray, List.set_cons_zero, List.set_cons_succ]
                      refine wpAnyH_done (by kernel_rfl) ?_ _
                      refine NoPanic.normal ?_
                      exact ⟨rfl, ((.slice (some ⟨Y0.heap.size, 0, none⟩) 0 0), v2, v11, .slice ya13 yn13 yc13, x2.heap.size), rfl, R13, T13, S13⟩
                  · go_simp
                    have S14 := SZ.al S1 (.cells #[.slice none 0 0] 27)
                    have hge_14 : w5.heap.size ≤ Y1.heap.size := S1.size
                    have R14 : Row (Y1.alloc (.cells #[.slice none 0 0] 27)) (Y1.heap.size) 27 [.slice none 0 0] := Row.self Y1 _ _
                    have O14 := OWN.alloc O1 (.cells #[.slice none 0 0] 27)
                    generalize hY14 : (Y1.alloc (.cells #[.slice none 0 0] 27)) = Y14 at S14 R14 O14 ⊢
                    clear hY14
                    refine hK.out _ _ S14 (fun hHeld => ?_)
                    clear hK K
                    try simp only [Act.put, List.setIfInBounds_toArray, List.set_cons_zero, List.set_cons_succ]
                    refine wpAnyH_ready (rs := [4]) (by kernel_rfl) (by simp) (AllReadyH.cons (o := { dst := some 60, op := Op.call { callee := Callee.builtin Builtin.append, args := #[Operand.tmp 56, Operand.tmp 59], argTypes := #[25, 25] }, type := 25, pos := "law.go:140", after := #[{ on := 0, ground := Ground.data }, { on := 3, ground := Ground.data }], guard := none }) rfl (fun K hK => ?_) AllReadyH.nil)
                    obtain ⟨v15, x15, hr15, O15, hb15⟩ := append_rs O14 S14.size ⟨g, off, sp⟩ 0 cap [] rfl (fun j u h => by simp [cellsL] at h) (by simp)
                    have R15 : Row x15 Y1.heap.size 27 [.slice none 0 0] := (hb15.2 _ (OWN.ne_row O14 R14) R14.lt).trans R14
                    have S15 := SZ.grown S14 hb15.1
                    refine step_append_r rfl _ _ 25 25 rfl (.slice (some ⟨Y0.heap.size, 0, none⟩) 0 0) (.slice (some ⟨g, off, sp⟩) 0 cap) (by simp [Act.eval, Act.put]) (by simp [Act.eval, Act.put]) hr15 ?_
                    try simp only [Act.put, List.setIfInBounds_toArray, List.set_cons_zero, List.set_cons_succ]
                    refine hK.out _ _ S15 (fun hHeld => ?_)
                    clear hK K
                    try simp only [Act.put, List.setIfInBounds_toArray, List.set_cons_zero, List.set_cons_succ]
                    refine wpAnyH_ready (rs := [8]) (by kernel_rfl) (by simp) (AllReadyH.cons (o := { dst := some 64, op := Op.call { callee := Callee.builtin Builtin.append, args := #[Operand.tmp 60, Operand.tmp 63], argTypes := #[25, 25] }, type := 25, pos := "law.go:140", after := #[{ on := 4, ground := Ground.data }, { on := 7, ground := Ground.data }, { on := 4, ground := Ground.chain }], guard := none }) rfl (fun K hK => ?_) AllReadyH.nil)
                    obtain ⟨v16, x16, hr16, O16, hb16⟩ := append_rs O15 S15.size ⟨g, off, sp⟩ 0 cap [] rfl (fun j u h => by simp [cellsL] at h) (by simp)
                    have R16 : Row x16 Y1.heap.size 27 [.slice none 0 0] := (hb16.2 _ (OWN.ne_row O15 R15) R15.lt).trans R15
                    have S16 := SZ.grown S15 hb16.1
                    refine step_append_r rfl _ _ 25 25 rfl v15 (.slice (some ⟨g, off, sp⟩) 0 cap) (by simp [Act.eval, Act.put]) (by simp [Act.eval, Act.put]) hr16 ?_
                    try simp only [Act.put, List.setIfInBounds_toArray, List.set_cons_zero, List.set_cons_succ]
                    refine hK.out _ _ S16 (fun hHeld => ?_)
                    clear hK K
                    try simp only [Act.put, List.setIfInBounds_toArray, List.set_cons_zero, List.set_cons_succ]
                    refine wpAnyH_ready (rs := [9]) (by kernel_rfl) (by simp) (AllReadyH.cons (o := { dst := some 65, op := Op.call { callee := Callee.value (Operand.func 19), args := #[Operand.tmp 64], argTypes := #[25] }, type := 35, pos := "law.go:140", after := #[{ on := 8, ground := Ground.data }, { on := 8, ground := Ground.chain }], guard := none }) rfl (fun K hK => ?_) AllReadyH.nil)
                    go_simp
                    go_at_call 19
                    refine (HNP.out _ _ (HVG4.out _ S16) (OWN.tbl O16)).mono ?_
                    rintro e x17 ⟨hb17, s17, rfl, T17⟩
                    have S17 := SZ.next S16 hb17
                    have R17 := R16.below hb17 R16.lt
                    refine hK.out _ _ S17 (fun hHeld => ?_)
                    clear hK K
                    try simp only [Act.put, List.setIfInBounds_toArray, List.set_cons_zero, List.set_cons_succ]
                    refine wpAnyH_take (i := 10) (oi := { dst := some 55, op := Op.move (Operand.tmp 65), type := 35, pos := "law.go:140", after := #[{ on := 9, ground := Ground.data }], guard := none }) (v := ?vvz58_10) rfl (by kernel_rfl) (by kernel_rfl) (by kernel_rfl) (fun _ _ _ h => h) (Or.inl ⟨by rfl, ?yyz58_10⟩) hHeld ?_
                    case vvz58_10 => exact .tuple #[.agg #[s17], .int .i64 0]
                    case yyz58_10 =>
                      intro W hS
                      go_simp
                    try simp only [Act.put, List.setIfInBounds_toArray, List.set_cons_zero, List.set_cons_succ]
                    refine wpAnyH_take (i := 11) (oi := { dst := some 66, op := Op.extract (Operand.tmp 55) 0, type := 27, pos := "law.go:140", after := #[{ on := 10, ground := Ground.data }], guard := none }) (v := ?vvz59_11) rfl (by kernel_rfl) (by kernel_rfl) (by kernel_rfl) (fun _ _ _ h => h) (Or.inl ⟨by rfl, ?yyz59_11⟩) hHeld ?_
                    case vvz59_11 => exact .agg #[s17]
                    case yyz59_11 =>
                      intro W hS
                      go_simp
                    try simp only [Act.put, List.setIfInBounds_toArray, List.set_cons_zero, List.set_cons_succ]
                    refine wpAnyH_take (i := 12) (oi := { dst := some 67, op := Op.extract (Operand.tmp 55) 1, type := 34, pos := "law.go:140", after := #[{ on := 10, ground := Ground.data }, { on := 14, ground := Ground.gcOnly Departure.lateStores }], guard := none }) (v := ?vvz60_12) rfl (by kernel_rfl) (by kernel_rfl) (by kernel_rfl) (fun _ _ _ h => h) (Or.inl ⟨by rfl, ?yyz60_12⟩) hHeld ?_
                    case vvz60_12 => exact .int .i64 0
                    case yyz60_12 =>
                      intro W hS
                      go_simp
                    try simp only [Act.put, List.setIfInBounds_toArray, List.set_cons_zero, List.set_cons_succ]
                    refine wpAnyH_ready (rs := [14]) (by kernel_rfl) (by simp) (AllReadyH.cons (o := { dst := none, op := Op.store 27 (Operand.tmp 10) (Operand.tmp 66), type := 0, pos := "law.go:140", after := #[{ on := 13, ground := Ground.data }, { on := 11, ground := Ground.data }, { on := 9, ground := Ground.chain }, { on := 0, ground := Ground.phase }, { on := 1, ground := Ground.phase }, { on := 2, ground := Ground.phase }, { on := 3, ground := Ground.phase }, { on := 4, ground := Ground.phase }, { on := 5, ground := Ground.phase }, { on := 6, ground := Ground.phase }, { on := 7, ground := Ground.phase }, { on := 8, ground := Ground.phase }, { on := 9, ground := Ground.phase }, { on := 10, ground := Ground.phase }, { on := 11, ground := Ground.phase }, { on := 12, ground := Ground.textOnly Departure.lateStores }, { on := 13, ground := Ground.phase }], guard := none }) rfl (fun K hK => ?_) AllReadyH.nil)
                    have e18 := R17.cell 0
                    have f18 := R17.frozen 0
                    simp only [List.getElem?_cons_zero] at e18
                    obtain ⟨ya18, yn18, yc18, rfl⟩ : ∃ a n c, s17 = Value.slice a n c := (by obtain ⟨a, c, h⟩ := TBL.slice T17; exact ⟨a, _, c, h⟩)
                    have hz18 : w5.heap.size ≤ Y1.heap.size := hge_14
                    go_simp
                    have S18 := SZ.set S17 (hz18) (.slice ya18 yn18 yc18)
                    have R18 := R17.set 0 (.slice ya18 yn18 yc18)
                    have T18 := TBL.store (v := .slice ya18 yn18 yc18) T17 R17
                    refine hK.out _ _ S18 (fun hHeld => ?_)
                    clear hK K
                    try simp only [Act.put, List.setIfInBounds_toArray, List.set_cons_zero, List.set_cons_succ]
                    refine wpAnyH_ready (rs := [15]) (by kernel_rfl) (by simp) (AllReadyH.cons (o := { dst := some 11, op := Op.assign (Operand.tmp 67), type := 34, pos := "law.go:140", after := #[{ on := 12, ground := Ground.data }, { on := 14, ground := Ground.chain }, { on := 0, ground := Ground.phase }, { on := 1, ground := Ground.phase }, { on := 2, ground := Ground.phase }, { on := 3, ground := Ground.phase }, { on := 4, ground := Ground.phase }, { on := 5, ground := Ground.phase }, { on := 6, ground := Ground.phase }, { on := 7, ground := Ground.phase }, { on := 8, ground := Ground.phase }, { on := 9, ground := Ground.phase }, { on := 10, ground := Ground.phase }, { on := 11, ground := Ground.phase }, { on := 12, ground := Ground.phase }, { on := 13, ground := Ground.phase }, { on := 14, ground := Ground.phase }], guard := none }) rfl (fun K hK => ?_) AllReadyH.nil)
                    go_simp
                    refine hK.out _ _ S18 (fun hHeld => ?_)
                    clear hK K
                    try simp only [Act.put, List.setIfInBounds_toArray, List.set_cons_zero, List.set_cons_succ]
                    refine wpAnyH_done (by kernel_rfl) ?_ _
                    refine NoPanic.normal ?_
                    exact ⟨rfl, ((.slice (some ⟨Y0.heap.size, 0, none⟩) 0 0), v15, v16, .slice ya18 yn18 yc18, Y1.heap.size), rfl, R18, T18, S18⟩
                · go_simp
                  have S19 := SZ.al S0 (.cells #[.slice none 0 0] 27)
                  have hge_19 : w5.heap.size ≤ Y0.heap.size := S0.size
                  have R19 : Row (Y0.alloc (.cells #[.slice none 0 0] 27)) (Y0.heap.size) 27 [.slice none 0 0] := Row.self Y0 _ _
                  generalize hY19 : (Y0.alloc (.cells #[.slice none 0 0] 27)) = Y19 at S19 R19 ⊢
                  clear hY19
                  refine hK.out _ _ S19 (fun hHeld => ?_)
                  clear hK K
                  try simp only [Act.put, List.setIfInBounds_toArray, List.set_cons_zero, List.set_cons_succ]
                  refine wpAnyH_ready (rs := [0]) (by kernel_rfl) (by simp) (AllReadyH.cons (o := { dst := some 56, op := Op.buildSlice 25 0 #[], type := 25, pos := "law.go:140", after := #[], guard := none }) rfl (fun K hK => ?_) AllReadyH.nil)
                  go_simp
                  have S20 := SZ.al S19 (.cells #[] 30)
                  have O20 : OWN w5.heap.size (Y19.alloc (.cells #[] 30)) (.slice (some ⟨Y19.heap.size, 0, none⟩) 0 0) [] := OWN.weak (World.ownsRow_made (size := 6) Y19 #[] 0 (Nat.le_refl _) (Nat.zero_le _) rfl) S19.size
                  have R20 := R19.alloc (.cells #[] 30)
                  generalize hY20 : Y19.alloc (.cells #[] 30) = Y20 at S20 O20 R20 ⊢
                  clear hY20
                  refine hK.out _ _ S20 (fun hHeld => ?_)
                  clear hK K
                  try simp only [Act.put, List.setIfInBounds_toArray, List.set_cons_zero, List.set_cons_succ]
                  refine wpAnyH_ready (rs := [4]) (by kernel_rfl) (by simp) (AllReadyH.cons (o := { dst := some 60, op := Op.call { callee := Callee.builtin Builtin.append, args := #[Operand.tmp 56, Operand.tmp 59], argTypes := #[25, 25] }, type := 25, pos := "law.go:140", after := #[{ on := 0, ground := Ground.data }, { on := 3, ground := Ground.data }], guard := none }) rfl (fun K hK => ?_) AllReadyH.nil)
                  obtain ⟨v21, x21, hr21, O21, hb21⟩ := append_rs O20 S20.size ⟨g, off, sp⟩ 0 cap [] rfl (fun j u h => by simp [cellsL] at h) (by simp)
                  have R21 : Row x21 Y0.heap.size 27 [.slice none 0 0] := (hb21.2 _ (OWN.ne_row O20 R20) R20.lt).trans R20
                  have S21 := SZ.grown S20 hb21.1
                  refine step_append_r rfl _ _ 25 25 rfl (.slice (some ⟨Y19.heap.size, 0, none⟩) 0 0) (.slice (some ⟨g, off, sp⟩) 0 cap) (by simp [Act.eval, Act.put]) (by simp [Act.eval, Act.put]) hr21 ?_
                  try simp only [Act.put, List.setIfInBounds_toArray, List.set_cons_zero, List.set_cons_succ]
                  refine hK.out _ _ S21 (fun hHeld => ?_)
                  clear hK K
                  try simp only [Act.put, List.setIfInBounds_toArray, List.set_cons_zero, List.set_cons_succ]
                  refine wpAnyH_ready (rs := [8]) (by kernel_rfl) (by simp) (AllReadyH.cons (o := { dst := some 64, op := Op.call { callee := Callee.builtin Builtin.append, args := #[Operand.tmp 60, Operand.tmp 63], argTypes := #[25, 25] }, type := 25, pos := "law.go:140", after := #[{ on := 4, ground := Ground.data }, { on := 7, ground := Ground.data }, { on := 4, ground := Ground.chain }], guard := none }) rfl (fun K hK => ?_) AllReadyH.nil)
                  obtain ⟨v22, x22, hr22, O22, hb22⟩ := append_rs O21 S21.size ⟨g, off, sp⟩ 0 cap [] rfl (fun j u h => by simp [cellsL] at h) (by simp)
                  have R22 : Row x22 Y0.heap.size 27 [.slice none 0 0] := (hb22.2 _ (OWN.ne_row O21 R21) R21.lt).trans R21
                  have S22 := SZ.grown S21 hb22.1
                  refine step_append_r rfl _ _ 25 25 rfl v21 (.slice (some ⟨g, off, sp⟩) 0 cap) (by simp [Act.eval, Act.put]) (by simp [Act.eval, Act.put]) hr22 ?_
                  try simp only [Act.put, List.setIfInBounds_toArray, List.set_cons_zero, List.set_cons_succ]
                  refine hK.out _ _ S22 (fun hHeld => ?_)
                  clear hK K
                  try simp only [Act.put, List.setIfInBounds_toArray, List.set_cons_zero, List.set_cons_succ]
                  refine wpAnyH_ready (rs := [9]) (by kernel_rfl) (by simp) (AllReadyH.cons (o := { dst := some 65, op := Op.call { callee := Callee.value (Operand.func 19), args := #[Operand.tmp 64], argTypes := #[25] }, type := 35, pos := "law.go:140", after := #[{ on := 8, ground := Ground.data }, { on := 8, ground := Ground.chain }], guard := none }) rfl (fun K hK => ?_) AllReadyH.nil)
                  go_simp
                  go_at_call 19
                  refine (HNP.out _ _ (HVG4.out _ S22) (OWN.tbl O22)).mono ?_
                  rintro e x23 ⟨hb23, s23, rfl, T23⟩
                  have S23 := SZ.next S22 hb23
                  have R23 := R22.below hb23 R22.lt
                  refine hK.out _ _ S23 (fun hHeld => ?_)
                  clear hK K
                  try simp only [Act.put, List.setIfInBounds_toArray, List.set_cons_zero, List.set_cons_succ]
                  refine wpAnyH_take (i := 10) (oi := { dst := some 55, op := Op.move (Operand.tmp 65), type := 35, pos := "law.go:140", after := #[{ on := 9, ground := Ground.data }], guard := none }) (v := ?vvz61_10) rfl (by kernel_rfl) (by kernel_rfl) (by kernel_rfl) (fun _ _ _ h => h) (Or.inl ⟨by rfl, ?yyz61_10⟩) hHeld ?_
                  case vvz61_10 => exact .tuple #[.agg #[s23], .int .i64 0]
                  case yyz61_10 =>
                    intro W hS
                    go_simp
                  try simp only [Act.put, List.setIfInBounds_toArray, List.set_cons_zero, List.set_cons_succ]
                  refine wpAnyH_take (i := 11) (oi := { dst := some 66, op := Op.extract (Operand.tmp 55) 0, type := 27, pos := "law.go:140", after := #[{ on := 10, ground := Ground.data }], guard := none }) (v := ?vvz62_11) rfl (by kernel_rfl) (by kernel_rfl) (by kernel_rfl) (fun _ _ _ h => h) (Or.inl ⟨by rfl, ?yyz62_11⟩) hHeld ?_
                  case vvz62_11 => exact .agg #[s23]
                  case yyz62_11 =>
                    intro W hS
                    go_simp
                  try simp only [Act.put, List.setIfInBounds_toArray, List.set_cons_zero, List.set_cons_succ]
                  refine wpAnyH_take (i := 12) (oi := { dst := some 67, op := Op.extract (Operand.tmp 55) 1, type := 34, pos := "law.go:140", after := #[{ on := 10, ground := Ground.data }, { on := 14, ground := Ground.gcOnly Departure.lateStores }], guard := none }) (v := ?vvz63_12) rfl (by kernel_rfl) (by kernel_rfl) (by kernel_rfl) (fun _ _ _ h => h) (Or.inl ⟨by rfl, ?yyz63_12⟩) hHeld ?_
                  case vvz63_12 => exact .int .i64 0
                  case yyz63_12 =>
                    intro W hS
                    go_simp
                  try simp only [Act.put, List.setIfInBounds_toArray, List.set_cons_zero, List.set_cons_succ]
                  refine wpAnyH_ready (rs := [14]) (by kernel_rfl) (by simp) (AllReadyH.cons (o := { dst := none, op := Op.store 27 (Operand.tmp 10) (Operand.tmp 66), type := 0, pos := "law.go:140", after := #[{ on := 13, ground := Ground.data }, { on := 11, ground := Ground.data }, { on := 9, ground := Ground.chain }, { on := 0, ground := Ground.phase }, { on := 1, ground := Ground.phase }, { on := 2, ground := Ground.phase }, { on := 3, ground := Ground.phase }, { on := 4, ground := Ground.phase }, { on := 5, ground := Ground.phase }, { on := 6, ground := Ground.phase }, { on := 7, ground := Ground.phase }, { on := 8, ground := Ground.phase }, { on := 9, ground := Ground.phase }, { on := 10, ground := Ground.phase }, { on := 11, ground := Ground.phase }, { on := 12, ground := Ground.textOnly Departure.lateStores }, { on := 13, ground := Ground.phase }], guard := none }) rfl (fun K hK => ?_) AllReadyH.nil)
                  have e24 := R23.cell 0
                  have f24 := R23.frozen 0
                  simp only [List.getElem?_cons_zero] at e24
                  obtain ⟨ya24, yn24, yc24, rfl⟩ : ∃ a n c, s23 = Value.slice a n c := (by obtain ⟨a, c, h⟩ := TBL.slice T23; exact ⟨a, _, c, h⟩)
                  have hz24 : w5.heap.size ≤ Y0.heap.size := hge_19
                  go_simp
                  have S24 := SZ.set S23 (hz24) (.slice ya24 yn24 yc24)
                  have R24 := R23.set 0 (.slice ya24 yn24 yc24)
                  have T24 := TBL.store (v := .slice ya24 yn24 yc24) T23 R23
                  refine hK.out _ _ S24 (fun hHeld => ?_)
                  clear hK K
                  try simp only [Act.put, List.setIfInBounds_toArray, List.set_cons_zero, List.set_cons_succ]
                  refine wpAnyH_ready (rs := [15]) (by kernel_rfl) (by simp) (AllReadyH.cons (o := { dst := some 11, op := Op.assign (Operand.tmp 67), type := 34, pos := "law.go:140", after := #[{ on := 12, ground := Ground.data }, { on := 14, ground := Ground.chain }, { on := 0, ground := Ground.phase }, { on := 1, ground := Ground.phase }, { on := 2, ground := Ground.phase }, { on := 3, ground := Ground.phase }, { on := 4, ground := Ground.phase }, { on := 5, ground := Ground.phase }, { on := 6, ground := Ground.phase }, { on := 7, ground := Ground.phase }, { on := 8, ground := Ground.phase }, { on := 9, ground := Ground.phase }, { on := 10, ground := Ground.phase }, { on := 11, ground := Ground.phase }, { on := 12, ground := Ground.phase }, { on := 13, ground := Ground.phase }, { on := 14, ground := Ground.phase }], guard := none }) rfl (fun K hK => ?_) AllReadyH.nil)
                  go_simp
                  refine hK.out _ _ S24 (fun hHeld => ?_)
                  clear hK K
                  try simp only [Act.put, List.setIfInBounds_toArray, List.set_cons_zero, List.set_cons_succ]
                  refine wpAnyH_done (by kernel_rfl) ?_ _
                  refine NoPanic.normal ?_
                  exact ⟨rfl, ((.slice (some ⟨Y19.heap.size, 0, none⟩) 0 0), v21, v22, .slice ya24 yn24 yc24, Y0.heap.size), rfl, R24, T24, S24⟩
              rintro ⟨z0, z1, z2, s5, gu⟩ w6 ⟨hR6, hT6, hS6⟩
              dsimp only at hR6 hT6 hS6
              have HU := Lib.hid (And.intro hR6 hT6)
              have HV := Lib.hid (And.intro (HR5.out.below hS6 HR5.out.lt) (HT5.out.below hS6))
              have HBS := Lib.hid hb
              have HS6 := Lib.hid (show Below b w w6 from B5.out.trans (Below.mono hS6 hbz5))
              have hbz6 : b ≤ w6.heap.size := Nat.le_trans hbz5 (SZ.size hS6)
              clear hR6 hT6 hS6
              simp only [Act.put, List.setIfInBounds_toArray, List.set_cons_zero, List.set_cons_succ]
              have ht0 : t = [] := by have h := HTN.out; injection h with h; exact h.symm
              subst ht0
              go_wp2_with fail
              go_loopw [70] (fun i wr => i = .int .i64 0 ∧ Hid (SZ w6 wr)) (fun i _ => 0)
              case atStart => exact ⟨rfl, Lib.hid (Below.refl _ _)⟩
              case round =>
                obtain ⟨rfl, HW⟩ := hrel
                have c7 := (HV.out.1.below HW.out HV.out.1.lt).cell 0
                have c8 := (HU.out.1.below HW.out HU.out.1.lt).cell 0
                simp only [List.getElem?_cons_zero] at c7 c8
                have hS := Lib.hid (fun W h1 h2 => Same_any [] [] (by decide) (.slice ta tn tc) s5 W h1 h2)
                rw [decide_eq_true rfl] at hS
                have hLn := Lib.hid (fun W h => Len_any [] (.slice ta tn tc) W h)
                obtain ⟨ua, un, uc, rfl⟩ : ∃ a n c, s5 = Value.slice a n c := (by obtain ⟨a, c, h⟩ := TBL.slice HU.out.2; exact ⟨a, _, c, h⟩)
                go_wp2_with fail
                refine (hS.out _ (HV.out.2.below HW.out) (HU.out.2.below HW.out)).mono ?_
                rintro e w8 ⟨rfl, hb⟩
                have S8 := Lib.hid (HW.out.next hb)
                have c9 := (HV.out.1.below S8.out HV.out.1.lt).cell 0
                simp only [List.getElem?_cons_zero] at c9
                clear hb c7 c8
                go_wp2_with fail
                refine (hLn.out _ (HV.out.2.below S8.out)).mono ?_
                rintro e w9 ⟨rfl, hb⟩
                have S9 := Lib.hid (S8.out.next hb)
                clear hb c9
                go_wp2
                go_ret
                exact ⟨rfl, by rw [HBS.out]; exact HS6.out.trans (Below.mono S9.out hbz6)⟩
end Go.Proofs.YtldjnegoefdadaaGreatDoor

namespace Go.Proofs.YtldjnegoefdadaaGreatDoor.rangesOrder
open Go.ChangeShapes Go.WideShapes Go.ChangeAt Go.RowKit
open Go.ChangeMaps (open_string shut_string)
set_option linter.unusedVariables false

theorem own : ownKnob Tryz.prog.godebug = none := by kernel_rfl
theorem laidOut : laidOutB Tryz.prog = true := by kernel_rfl

set_option maxRecDepth 100000 in
set_option maxHeartbeats 4000000 in
theorem lifted (os : Os) (started : os.Started) (H : Type) (enc : TypeId × Value → H) :
    ReturnsInHanded {} Tryz.checked os 4 .any (fun w args => (Rows.rangesOrderSpec.pre enc Tryz.prog Tryz.f4 Rows.rangesOrderRow.domain false w args ∧ laidMetH Tryz.prog Rows.rangesOrderRow.laid w) ∧ sizedMet enc Tryz.prog Tryz.f4 (OpenSpec.ofChange Rows.rangesOrderSpec) false w args) (Rows.rangesOrderSpec.post enc Tryz.prog Tryz.f4 false true false false) := by
  refine returns_shaped_and (C := Tryz.checked) (X := fun w _ => laidMetH Tryz.prog Rows.rangesOrderRow.laid w) (fun _ _ _ hh h => h.of_heap hh) own started (by kernel_rfl) Tryz.func4
    (ChangeSpec.witness_shaped (enc := enc) (C := Tryz.checked) (os := os) (X := fun w _ => laidMetH Tryz.prog Rows.rangesOrderRow.laid w) false (World.laidAll Tryz.prog os Rows.rangesOrderRow.laid) #[.slice none 0 0, .int .u8 0] 8 (World.laidAll_os _ _ _) (World.shaped_of_ZipB (by kernel_rfl) (by kernel_rfl)) (by kernel_rfl) (by kernel_rfl) (by kernel_rfl) (by rw [MakeChecks.laidMetH_plain _ _ _ (by kernel_rfl)]; exact laidMet_laidAll _ (by kernel_rfl) (by kernel_rfl))) ?_
  intro W base args ds gs before hval0 hW hcnd hsz0 hX1 hX2
  have hsz : (DataW.weightsEach Tryz.prog (Tryz.f4.params.toList ++ Rows.rangesOrderSpec.plain.varTypes Tryz.prog) (ds ++ gs)).all (· ≤ reachBytes) = true := hsz0
  have hval : ∀ (j : Nat) t v, Tryz.f4.params[j]? = some t → args[j]? = some v → Value.okWide Tryz.prog W .any base t v := hval0
  have hW' := hW
  obtain ⟨p, q, hA0, hV, rfl, hfz, hnd⟩ := hW
  have hA : DataW.TrodAll enc Tryz.prog W 0 (fun _ => true) true Tryz.f4.params.toList args.toList ds p := hA0
  rw [Tryz.params4] at hA hval hsz
  obtain ⟨v0, vs0, d0, ds0, p0, q0, hargs, rfl, rfl, h0, r0⟩ := trodAll_cons hA
  obtain ⟨v1, vs1, d1, ds1, p1, q1, rfl, rfl, rfl, h1, r1⟩ := trodAll_cons r0
  obtain ⟨rfl, rfl, rfl⟩ := trodAll_nil r1
  obtain rfl : args = #[v0, v1] := by cases args; simp_all
  obtain ⟨rfl, rfl⟩ := trodVars_none hV
  obtain ⟨x0, len0, cap0, rfl⟩ := okWide_slice Tryz.underlying25 (hval 0 25 v0 rfl rfl)
  have k0 := h0
  have lt0 : ∀ x ∈ p0, x.block < W.heap.size := by obtain ⟨m, hm⟩ := k0; exact DataW.trod_lt m _ _ _ hm
  obtain ⟨l0, w0, m0, n0⟩ : ∃ l, InR W (.slice x0 len0 cap0) l ∧ (∀ r ∈ l, -9223372036854775808 ≤ r.mode ∧ r.mode ≤ 9223372036854775807) ∧ l.length ≤ 9223372036854775807 := by
    obtain ⟨fuel, hf⟩ := h0
    exact ranges_open hf
  obtain ⟨a1, rfl, rfl, rfl, w1⟩ := open_int Tryz.underlying5 (hval 1 5 v1 rfl rfl) h1
  clear hA0 hval0 hsz hsz0
  simp only [List.append_nil] at hW'
  refine (RangesOrder_walk (.slice x0 len0 cap0) l0 a1 W w0 n0 m0 w1 (VG_of_laidV hX1 hX2) (NV_of_laidV hX1)).mono fun e W' ⟨he, bel⟩ => ?_
  subst he
  exact ⟨_, rfl, _, _, _, [], _, [], hW', trodAll_mk1 (shut_bool Tryz.underlying4 _), (trodAll_cons_mk (Below.trod laidOut (by kernel_rfl) (of_decide_eq_true (by kernel_rfl)) k0 bel lt0) (trodAll_cons_mk (shut_int Tryz.underlying5 w1) trodAll_mk0)), rfl, bel.frame _, fun h => by cases h⟩

set_option maxRecDepth 100000 in
set_option maxHeartbeats 4000000 in
theorem closed : joinedFacts Tryz.prog 4 Tryz.f4 Rows.rangesOrderSpec Rows.rangesOrderRow = true := by
  unfold joinedFacts
  simp only [Bool.and_eq_true]
  repeat' apply And.intro
  all_goals as_aux_lemma => kernel_rfl

set_option maxHeartbeats 4000000 in
theorem over : Rows.rangesOrderRow.holds Tryz.pinned (OpenSpec.ofChange Rows.rangesOrderSpec) :=
  OpenClaim.holds_of_wide 4 Tryz.f4 rfl rfl rfl rfl rfl rfl rfl ⟨rfl, rfl, rfl, rfl, rfl⟩ rfl rfl rfl rfl rfl (by kernel_rfl) Tryz.func4 closed
    (of_decide_eq_true (by kernel_rfl)) (by unfold Func.isWrapper; first | (rw [if_pos (by decide +kernel)]; kernel_rfl) | (rw [if_neg (by decide +kernel)]; exact ⟨rfl, rfl⟩))
    (fun os started H enc _ => lifted os started H enc)

set_option maxHeartbeats 4000000 in
theorem proved : Rows.RangesOrderCardSaid :=
  Claim7.holds_tied_plain_at .later [] [.data, .data, .data, .data, .sentinel, .sentinel, .data, .pinned] true (true, "f0e9430ac7bc27ea389fcc8e946ed5796767bed45d9e1916ea122cec97530ade") true
    over (fun _ h => by cases h) (by kernel_rfl) (fun _ h => by cases h) rangesOrder_row_tie rfl ⟨rfl, rfl⟩ (by kernel_rfl) rfl
    (fun f fn hf hfn => by
      obtain rfl : f = 4 := Option.some.inj ((show Tryz.prog.funcNamed "cashier/cashierlaw18.RangesOrder" = some 4 by kernel_rfl).symm.trans hf) |>.symm
      obtain rfl : fn = Tryz.f4 := (Option.some.inj (Tryz.func4.symm.trans hfn)).symm
      exact ⟨by kernel_rfl, fun j t ht => by
        rw [Tryz.params4] at ht
        have hm : t ∈ [25, 5] := by simpa using Array.mem_of_getElem? ht
        have hall : ([25, 5].all fun u => !Tryz.prog.wantsStandIn u) = true := by kernel_rfl
        exact (show Tryz.prog.wantsStandIn t = false by simpa using List.all_eq_true.1 hall t hm)⟩)
    (by kernel_rfl)

end Go.Proofs.YtldjnegoefdadaaGreatDoor.rangesOrder
